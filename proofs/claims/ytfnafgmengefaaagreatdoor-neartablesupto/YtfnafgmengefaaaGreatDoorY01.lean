/- What is written of each that is placed tells it: no two are written alike. Plain. No condition. Table.Drop. Condition: the table and what is placed lie as is said of them. -/
import Derived.Test.YtfnafgmengefaaaGreatDoorQ23
namespace Go.Proofs.YtfnafgmengefaaaGreatDoor
open Go.RowKit
set_option linter.unusedSimpArgs false
set_option maxRecDepth 100000

theorem dig_ne : ∀ k < 10, UInt8.ofNat (48 + k) ≠ 32 ∧ UInt8.ofNat (48 + k) ≠ 45 := by decide
theorem dig_inj : ∀ i < 10, ∀ j < 10, UInt8.ofNat (48 + i) = UInt8.ofNat (48 + j) → i = j := by decide
theorem dec_one (u : Nat) (h : u < 10) : Lib.decDigits u = [UInt8.ofNat (48 + u)] := by rw [Lib.decDigits, dif_pos h]
theorem dec_more (u : Nat) (h : ¬ u < 10) : Lib.decDigits u = Lib.decDigits (u / 10) ++ [UInt8.ofNat (48 + u % 10)] := by rw [Lib.decDigits, dif_neg h]
theorem dec_ne : ∀ n u : Nat, u < n → Lib.decDigits u ≠ [] ∧ ∀ c ∈ Lib.decDigits u, c ≠ 32 ∧ c ≠ 45 := by
  intro n
  induction n with
  | zero => intro u h; omega
  | succ n ih =>
    intro u hu
    by_cases h : u < 10
    · rw [dec_one u h]
      refine ⟨by simp, fun c hc => ?_⟩
      rw [List.mem_singleton] at hc
      subst hc
      exact dig_ne u h
    · rw [dec_more u h]
      refine ⟨by simp, fun c hc => ?_⟩
      rcases List.mem_append.1 hc with hc | hc
      · exact (ih (u / 10) (by omega)).2 c hc
      · rw [List.mem_singleton] at hc
        subst hc
        exact dig_ne (u % 10) (by omega)
theorem dec_inj : ∀ n u v : Nat, u < n → Lib.decDigits u = Lib.decDigits v → u = v := by
  intro n
  induction n with
  | zero => intro u v h; omega
  | succ n ih =>
    intro u v hu e
    by_cases h : u < 10
    · by_cases k : v < 10
      · rw [dec_one u h, dec_one v k] at e
        injection e with e
        exact dig_inj u h v k e
      · rw [dec_one u h, dec_more v k] at e
        have h1 := congrArg List.length e
        have h2 := (dec_ne (v / 10 + 1) (v / 10) (by omega)).1
        rw [List.length_append] at h1
        have h3 : (Lib.decDigits (v / 10)).length = 0 := by simp at h1; simpa using h1
        exact absurd (List.length_eq_zero_iff.1 h3) h2
    · by_cases k : v < 10
      · rw [dec_more u h, dec_one v k] at e
        have h1 := congrArg List.length e
        have h2 := (dec_ne (u / 10 + 1) (u / 10) (by omega)).1
        rw [List.length_append] at h1
        have h3 : (Lib.decDigits (u / 10)).length = 0 := by simp at h1; simpa using h1
        exact absurd (List.length_eq_zero_iff.1 h3) h2
      · rw [dec_more u h, dec_more v k] at e
        have h1 := List.append_inj' e rfl
        have h2 := ih (u / 10) (v / 10) (by omega) h1.1
        have h3 : UInt8.ofNat (48 + u % 10) = UInt8.ofNat (48 + v % 10) := by have := h1.2; injection this
        have h4 := dig_inj (u % 10) (by omega) (v % 10) (by omega) h3
        omega
theorem itoa_nosp (n : Int) : ∀ c ∈ Lib.itoa n, c ≠ 32 := by
  intro c hc
  unfold Lib.itoa at hc
  split at hc
  · rcases List.mem_cons.1 hc with rfl | hc
    · decide
    · exact ((dec_ne _ _ (Nat.lt_succ_self _)).2 c hc).1
  · exact ((dec_ne _ _ (Nat.lt_succ_self _)).2 c hc).1
theorem itoa_head {u v : Nat} (e : 45 :: Lib.decDigits u = Lib.decDigits v) : False := by
  have h := (dec_ne _ _ (Nat.lt_succ_self v)).2 45 (by rw [← e]; simp)
  exact h.2 rfl
theorem itoa_inj {m n : Int} (e : Lib.itoa m = Lib.itoa n) : m = n := by
  unfold Lib.itoa at e
  split at e <;> split at e
  · have h : Lib.decDigits m.natAbs = Lib.decDigits n.natAbs := by injection e
    have := dec_inj _ _ _ (Nat.lt_succ_self _) h
    omega
  · exact (itoa_head e).elim
  · exact (itoa_head e.symm).elim
  · have := dec_inj _ _ _ (Nat.lt_succ_self _) e
    omega
theorem till32 : ∀ {l m r s : List UInt8}, (∀ c ∈ l, c ≠ 32) → (∀ c ∈ m, c ≠ 32) → l ++ ([32] ++ r) = m ++ ([32] ++ s) → l = m ∧ r = s := by
  intro l
  induction l with
  | nil =>
    intro m r s _ hm h
    cases m with
    | nil => exact ⟨rfl, by simpa using h⟩
    | cons c m =>
      simp only [List.nil_append, List.cons_append, List.cons.injEq] at h
      exact absurd h.1.symm (hm c (by simp))
  | cons a l ih =>
    intro m r s hl hm h
    cases m with
    | nil =>
      simp only [List.nil_append, List.cons_append, List.cons.injEq] at h
      exact absurd h.1 (hl a (by simp))
    | cons c m =>
      simp only [List.cons_append, List.cons.injEq] at h
      obtain ⟨e1, e2⟩ := ih (fun c hc => hl c (List.mem_cons_of_mem _ hc)) (fun c hc => hm c (List.mem_cons_of_mem _ hc)) (by simpa using h.2)
      exact ⟨by rw [h.1, e1], e2⟩
/-- What is written tells where it ends, and what it was. -/
def Pre {α : Type} (f : α → List UInt8) : Prop := ∀ x y r s, f x ++ r = f y ++ s → x = y ∧ r = s
theorem pre_N : Pre eN := by
  intro x y r s h
  unfold eN at h
  rw [List.append_assoc, List.append_assoc] at h
  obtain ⟨e1, e2⟩ := till32 (itoa_nosp x) (itoa_nosp y) h
  exact ⟨itoa_inj e1, e2⟩
theorem pre_S : Pre eS := by
  intro x y r s h
  unfold eS at h
  rw [List.append_assoc, List.append_assoc] at h
  obtain ⟨e1, e2⟩ := pre_N _ _ _ _ h
  have e3 : x.size = y.size := by omega
  obtain ⟨e4, e5⟩ := List.append_inj e2 (by simpa using e3)
  refine ⟨?_, e5⟩
  cases x; cases y
  simpa using e4
theorem pre_B : Pre eB := by
  intro x y r s h
  cases x <;> cases y <;> simp [eB] at h ⊢ <;> exact h
theorem pre_flat {α : Type} {f : α → List UInt8} (hf : Pre f) : ∀ (l m : List α) (r s : List UInt8), l.length = m.length → l.flatMap f ++ r = m.flatMap f ++ s → l = m ∧ r = s := by
  intro l
  induction l with
  | nil =>
    intro m r s hl h
    obtain rfl : m = [] := List.length_eq_zero_iff.1 hl.symm
    exact ⟨rfl, by simpa using h⟩
  | cons a l ih =>
    intro m r s hl h
    cases m with
    | nil => simp at hl
    | cons c m =>
      rw [List.flatMap_cons, List.flatMap_cons, List.append_assoc, List.append_assoc] at h
      obtain ⟨e1, e2⟩ := hf _ _ _ _ h
      obtain ⟨e3, e4⟩ := ih m r s (by simpa using hl) e2
      exact ⟨by rw [e1, e3], e4⟩
theorem pre_L {α : Type} {f : α → List UInt8} (hf : Pre f) : Pre (eL f) := by
  intro x y r s h
  unfold eL at h
  rw [List.append_assoc, List.append_assoc] at h
  obtain ⟨e1, e2⟩ := pre_N _ _ _ _ h
  exact pre_flat hf x y r s (by omega) e2
theorem pre_Lab : Pre eLab := by
  rintro ⟨x0, x1⟩ ⟨y0, y1⟩ r s h
  simp only [eLab, List.append_assoc] at h
  obtain ⟨rfl, h1⟩ := pre_S _ _ _ _ h
  obtain ⟨rfl, h2⟩ := pre_S _ _ _ _ h1
  exact ⟨rfl, h2⟩
theorem pre_Req : Pre eReq := by
  rintro ⟨x0, x1, x2⟩ ⟨y0, y1, y2⟩ r s h
  simp only [eReq, List.append_assoc] at h
  obtain ⟨rfl, h1⟩ := pre_S _ _ _ _ h
  obtain ⟨rfl, h2⟩ := pre_N _ _ _ _ h1
  obtain ⟨rfl, h3⟩ := pre_L pre_S _ _ _ _ h2
  exact ⟨rfl, h3⟩
theorem pre_Bear : Pre eBear := by
  rintro ⟨x0, x1, x2, x3⟩ ⟨y0, y1, y2, y3⟩ r s h
  simp only [eBear, List.append_assoc] at h
  obtain ⟨rfl, h1⟩ := pre_S _ _ _ _ h
  obtain ⟨rfl, h2⟩ := pre_S _ _ _ _ h1
  obtain ⟨rfl, h3⟩ := pre_B _ _ _ _ h2
  obtain ⟨rfl, h4⟩ := pre_N _ _ _ _ h3
  exact ⟨rfl, h4⟩
theorem pre_Prefer : Pre ePrefer := by
  rintro ⟨x0, x1⟩ ⟨y0, y1⟩ r s h
  simp only [ePrefer, List.append_assoc] at h
  obtain ⟨rfl, h1⟩ := pre_L pre_Req _ _ _ _ h
  obtain ⟨rfl, h2⟩ := pre_N _ _ _ _ h1
  exact ⟨rfl, h2⟩
theorem pre_Term : Pre eTerm := by
  rintro ⟨x0, x1⟩ ⟨y0, y1⟩ r s h
  simp only [eTerm, List.append_assoc] at h
  obtain ⟨rfl, h1⟩ := pre_L pre_Req _ _ _ _ h
  obtain ⟨rfl, h2⟩ := pre_S _ _ _ _ h1
  exact ⟨rfl, h2⟩
theorem pre_Spread : Pre eSpread := by
  rintro ⟨x0, x1, x2, x3⟩ ⟨y0, y1, y2, y3⟩ r s h
  simp only [eSpread, List.append_assoc] at h
  obtain ⟨rfl, h1⟩ := pre_S _ _ _ _ h
  obtain ⟨rfl, h2⟩ := pre_N _ _ _ _ h1
  obtain ⟨rfl, h3⟩ := pre_N _ _ _ _ h2
  obtain ⟨rfl, h4⟩ := pre_L pre_Req _ _ _ _ h3
  exact ⟨rfl, h4⟩
theorem pre_Pod : Pre ePod := by
  rintro ⟨x0, x1, x2, ⟨x3, x4, x5⟩, x6, x7, x8, x9, x10, x11, x12, x13, x14, x15⟩ ⟨y0, y1, y2, ⟨y3, y4, y5⟩, y6, y7, y8, y9, y10, y11, y12, y13, y14, y15⟩ r s h
  simp only [ePod, List.append_assoc] at h
  obtain ⟨rfl, h1⟩ := pre_S _ _ _ _ h
  obtain ⟨rfl, h2⟩ := pre_N _ _ _ _ h1
  obtain ⟨rfl, h3⟩ := pre_L pre_Lab _ _ _ _ h2
  obtain ⟨rfl, h4⟩ := pre_N _ _ _ _ h3
  obtain ⟨rfl, h5⟩ := pre_N _ _ _ _ h4
  obtain ⟨rfl, h6⟩ := pre_N _ _ _ _ h5
  obtain ⟨rfl, h7⟩ := pre_L pre_Bear _ _ _ _ h6
  obtain ⟨rfl, h8⟩ := pre_L pre_Req _ _ _ _ h7
  obtain ⟨rfl, h9⟩ := pre_L pre_Prefer _ _ _ _ h8
  obtain ⟨rfl, h10⟩ := pre_L pre_N _ _ _ _ h9
  obtain ⟨rfl, h11⟩ := pre_L pre_Term _ _ _ _ h10
  obtain ⟨rfl, h12⟩ := pre_L pre_Term _ _ _ _ h11
  obtain ⟨rfl, h13⟩ := pre_L pre_Spread _ _ _ _ h12
  obtain ⟨rfl, h14⟩ := pre_L pre_S _ _ _ _ h13
  obtain ⟨rfl, h15⟩ := pre_S _ _ _ _ h14
  obtain ⟨rfl, h16⟩ := pre_S _ _ _ _ h15
  exact ⟨rfl, h16⟩
theorem pre_Placed : Pre ePlaced := by
  rintro ⟨x0, x1⟩ ⟨y0, y1⟩ r s h
  simp only [ePlaced, List.append_assoc] at h
  obtain ⟨rfl, h1⟩ := pre_Pod _ _ _ _ h
  obtain ⟨rfl, h2⟩ := pre_L pre_Lab _ _ _ _ h1
  exact ⟨rfl, h2⟩
theorem like_inj {x y : PlacedD} (h : likeT x = likeT y) : x = y := by
  unfold likeT at h
  have h1 : (ePlaced x).toArray = (ePlaced y).toArray := by injection h
  have h2 : ePlaced x = ePlaced y := by simpa using h1
  exact (pre_Placed x y [] [] (by rw [h2])).1
theorem lkN_pos {A : List PlacedD} {x : PlacedD} (h : x ∈ A) : lkN A (likeT x) ≠ 0 := by
  unfold lkN
  have h1 : 0 < (A.filter (fun y => sEq (likeT x) (likeT y))).length := List.length_pos_of_mem (List.mem_filter.2 ⟨h, (sEq_iff _ _).2 rfl⟩)
  omega
theorem lkN_zero {A : List PlacedD} {x : PlacedD} (h : ¬ x ∈ A) : lkN A (likeT x) = 0 := by
  unfold lkN
  have h1 : A.filter (fun y => sEq (likeT x) (likeT y)) = [] := List.filter_eq_nil_iff.2 (fun y hy e => h (by rw [like_inj ((sEq_iff _ _).1 e)]; exact hy))
  rw [h1]; rfl
theorem lkN_perm {A B : List PlacedD} (h : A.Perm B) (s : ByteArray) : lkN A s = lkN B s := by
  unfold lkN
  rw [(h.filter _).length_eq]
theorem lkN_cons (A : List PlacedD) (x : PlacedD) (s : ByteArray) : lkN (x :: A) s = if sEq s (likeT x) = true then lkN A s + 1 else lkN A s := by
  unfold lkN
  rw [List.filter_cons]
  cases h : sEq s (likeT x) <;> simp [h]
theorem sum_perm {l m : List Int} (h : l.Perm m) : l.sum = m.sum := by
  induction h with
  | nil => rfl
  | cons a _ ih => rw [List.sum_cons, List.sum_cons, ih]
  | swap a b l => simp only [List.sum_cons]; omega
  | trans _ _ ih1 ih2 => rw [ih1, ih2]
theorem others_cons (nm : ByteArray) (A : List PlacedD) (x : PlacedD) : othersN nm (x :: A) = if sEq x.1.1 nm = true then othersN nm A else x :: othersN nm A := by
  unfold othersN
  rw [List.filter_cons]
  cases h : sEq x.1.1 nm <;> simp [h]
theorem cTo_perm (nm : ByteArray) {A B : List PlacedD} (h : A.Perm B) (t : TermD) : cT t (othersN nm A) = cT t (othersN nm B) := by
  funext d
  unfold cT othersN
  exact sum_perm ((h.filter _).map _)
theorem cOo_perm (P : List Lab) (nm : ByteArray) {A B : List PlacedD} (h : A.Perm B) : cO P (othersN nm A) = cO P (othersN nm B) := by
  funext d
  unfold cO othersN
  exact sum_perm ((h.filter _).map _)
theorem cTo_drop (nm : ByteArray) {A A' : List PlacedD} {x : PlacedD} (h : A.Perm (x :: A')) : (if sEq x.1.1 nm = true then (fun t => cT t (othersN nm A)) else fun t => addF (cT t (othersN nm A)) (hT t x) (-1)) = fun t => cT t (othersN nm A') := by
  have e : (fun t => cT t (othersN nm A)) = fun t => cT t (othersN nm (x :: A')) := funext (fun t => cTo_perm nm h t)
  have e2 : (fun t => addF (cT t (othersN nm A)) (hT t x) (-1)) = fun t => addF (cT t (othersN nm (x :: A'))) (hT t x) (-1) := funext (fun t => by rw [cTo_perm nm h t])
  rw [e, e2, others_cons]
  cases sEq x.1.1 nm
  · simp only [Bool.false_eq_true, if_false]
    funext t d
    unfold addF cT one
    rw [List.map_cons, List.sum_cons]
    split <;> omega
  · simp
theorem cOo_drop (P : List Lab) (nm : ByteArray) {A A' : List PlacedD} {x : PlacedD} (h : A.Perm (x :: A')) : (if sEq x.1.1 nm = true then cO P (othersN nm A) else fun d => cO P (othersN nm A) d + -1 * cX P x (pApart x.1) d) = cO P (othersN nm A') := by
  rw [cOo_perm P nm h, others_cons]
  cases sEq x.1.1 nm
  · simp only [Bool.false_eq_true, if_false]
    funext d
    unfold cO
    rw [List.map_cons, List.sum_cons]
    omega
  · simp
end Go.Proofs.YtfnafgmengefaaaGreatDoor
namespace Go.Proofs.YtfnafgmengefaaaGreatDoor
open Go.RowKit Go.Maps
set_option linter.unusedSimpArgs false
set_option maxRecDepth 100000

theorem PmAt.del {D : DataW Unit} {w : World} {pm n : Nat} {f : ByteArray → Int} (h : ∀ s, D.atKey (kS s) (.lit (.int .i64 0)) = .lit (.int .i64 (f s))) (hb : ∀ s, 0 ≤ f s ∧ f s ≤ n) {s : ByteArray} (h3 : w.ownsMap Tryz.prog 9 (plainElem Tryz.prog 3) pm n (D.del (kS s))) : PmAt w pm n (fun t => if sEq t s = true then 0 else f t) := by
  refine ⟨_, h3, fun t => ?_, fun t => ?_⟩
  · by_cases q : sEq t s = true
    · simp only [if_pos q]; rw [(sEq_iff _ _).1 q, atKey_del_same]
    · simp only [if_neg q]; rw [atKey_del_other (fun e => q ((sEq_iff _ _).2 (kS_inj e)))]
      exact h t
  · have := hb t
    by_cases q : sEq t s = true
    · simp only [if_pos q]; omega
    · simp only [if_neg q]; omega
/-- What is left, if one just like x is there. -/
def LeftOf (A : List PlacedD) (x : PlacedD) (A' : List PlacedD) : Prop := (lkN A (likeT x) = 0 → A' = A) ∧ (lkN A (likeT x) ≠ 0 → A.Perm (x :: A'))
theorem lkN_left {A A' : List PlacedD} {x : PlacedD} (h : A.Perm (x :: A')) (s : ByteArray) : (if sEq s (likeT x) = true then lkN A (likeT x) - 1 else lkN A s) = lkN A' s := by
  rw [lkN_perm h, lkN_perm h, lkN_cons, lkN_cons]
  by_cases q : sEq s (likeT x) = true
  · rw [if_pos q, (sEq_iff _ _).1 q, if_pos ((sEq_iff _ _).2 rfl)]; omega
  · rw [if_neg q, if_neg q]
set_option maxHeartbeats 8000000 in
theorem Drop_calls {w : World} {tb : Nat} {T : TalD} {ts : List Value} {pm : Nat} {P : List Lab} {A A' : List PlacedD} {N n : Nat} {cs : List Value} {x : PlacedD} (hT' : Hid (TabAt w tb T ts pm P A N n)) (hx : Hid (RPlaced (NP T pm) w cs x)) (hok : okPod x.1) (htab : Hid (TB w.heap.size w)) (hl : (ePlaced x).length ≤ 70368744170000) (hN : N + 1 + (pApart x.1).length < 70368744177664) (hn : n < 140737488355328) (hleft : Hid (LeftOf A x A')) :
    Calls Tryz.prog 18 #[.pointer (some ⟨tb, 0, none⟩), .agg cs.toArray] w fun e w' => e = .returned (.int .i64 (if lkN A (likeT x) = 0 then 5 else 0)) ∧ TabAt w' tb T ts pm P A' (N + 1 + (pApart x.1).length) (n + 1) ∧ Turns (mapsP T pm) w w' := by
  have hi17 : (Tryz.prog.info? 41).map (·.size) = some cs.length := by rw [RPlaced.firm.len hx.out]; exact sizePl
  obtain ⟨⟨a1, n1, m1⟩, ⟨a2, n2, m2⟩, ⟨a3, n3, m3⟩, hts, _, _, _, _⟩ := hT'.out.r.out
  simp only at hts
  subst hts
  obtain ⟨W1, hW1⟩ : ∃ W, W = w.alloc (.cells cs.toArray 41) := ⟨_, rfl⟩
  have B1 : Below w.heap.size w W1 := by rw [hW1]; go_grown
  have qx : BoxL W1 w.heap.size cs := by rw [hW1]; exact BoxL.new w 41 cs
  have HT : Hid (TabAt W1 tb T [.string T.1, .slice a1 n1 m1, .slice a2 n2 m2, .slice a3 n3 m3, .map (some T.2.2.2.2)] pm P A N n) := hT'.out.on B1
  have HX : Hid (BoxL W1 w.heap.size cs ∧ RPlaced (NP T pm) W1 cs x ∧ Below w.heap.size w W1 ∧ w.heap.size < W1.heap.size) := ⟨qx, RPlaced.firm.kept hx.out (Kept.below B1), B1, qx.1⟩
  have HS : Hid (∀ u, Below W1.heap.size W1 u → AdS tb w.heap.size [.string T.1, .slice a1 n1 m1, .slice a2 n2 m2, .slice a3 n3 m3, .map (some T.2.2.2.2)] cs pm u) := fun u hb => ⟨HT.out.b.on hb, HX.out.1.on hb⟩
  have hnl : NP T pm w.heap.size := fun k => by
    rcases k with k | k
    · exact absurd (hT'.out.m.lt k) (Nat.lt_irrefl _)
    · exact absurd hT'.out.p.lt (by rw [← k]; exact Nat.lt_irrefl _)
  have HNL : Hid (NP T pm w.heap.size) := hnl
  have c5 := (HT.out.b.2 5 (.map (some pm)) rfl).1
  have HL := likeness_calls cs (NP T pm) x W1 HX.out.2.1 hok (fun w' h => htab.out w' (on2 B1 h)) hl
  have hse : (likeT x).size = (ePlaced x).length := by show (ePlaced x).toArray.size = _; simp
  have hsl : (likeT x).size ≤ 140737488355328 := by omega
  have HLf : Hid ((lkN A (likeT x) = 0 → A' = A) ∧ (lkN A (likeT x) ≠ 0 → A.Perm (x :: A') ∧ ∀ s, (if sEq s (likeT x) = true then lkN A (likeT x) - 1 else lkN A s) = lkN A' s)) := ⟨hleft.out.1, fun h => ⟨hleft.out.2 h, lkN_left (hleft.out.2 h)⟩⟩
  have HR0 : Hid (W1.rangeAt w.heap.size 0 cs) := qx.range
  clear hse hleft
  generalize likeT x = lk at HL hsl HLf ⊢
  obtain ⟨ans, hans⟩ : ∃ a : Int, a = (if lkN A lk = 0 then 5 else 0) := ⟨_, rfl⟩
  rw [← hans]
  have HAns : Hid (ans = (if lkN A lk = 0 then 5 else 0)) := hans
  clear hans
  clear hT' hx htab qx B1 hnl
  go_enter Tryz.func18, Tryz.ntmps18
  go_upto_region 1 with fail
  rw [← hW1]
  clear hW1
  go_wp2_with fail
  refine (made_some W1 tb pm c5).mono ?_
  rintro e w2 ⟨rfl, rfl⟩
  clear c5
  go_wp2_with (first | (refine wpList_load_mid rfl 41 _ rfl w.heap.size 0 rfl cs _ HR0.out Tryz.underlying41 rfl hi17 ?_) | fail)
  refine HL.mono ?_
  rintro e w4 ⟨rfl, hb4⟩
  clear HL HR0
  have HT4 := HT.out.on hb4
  have hlk := HT4.p.look hsl
  have hlb := HT4.p.bound lk
  have cm := (HT4.b.2 5 (.map (some pm)) rfl).1
  by_cases h0 : lkN A lk = 0
  ·
    have HE : Hid (TabAt w4 tb T [.string T.1, .slice a1 n1 m1, .slice a2 n2 m2, .slice a3 n3 m3, .map (some T.2.2.2.2)] pm P A' (N + 1 + (pApart x.1).length) (n + 1) ∧ Turns (mapsP T pm) w w4) := by
      rw [HLf.out.1 h0]
      exact ⟨⟨HT4.b, HT4.r, ⟨fun t ht => (HT4.m.c t ht).mono (by omega), HT4.m.o.mono (by omega), HT4.m.n⟩, HT4.p.mono (by omega), HT4.d, HT4.l⟩, (Turns.below HX.out.2.2.1).trans (Turns.below hb4)⟩
    have HA : Hid (ans = 5) := by rw [Hid, HAns.out, if_pos h0]
    rw [h0] at hlk
    clear HT4 HT HS HX HLf HNL hb4 hlb h0
    go_wp2_with fail
    go_ret
    exact ⟨by rw [HA.out]; rfl, HE.out⟩
  ·
    have HA : Hid (ans = 0) := by rw [Hid, HAns.out, if_neg h0]
    obtain ⟨hperm, hlks⟩ := HLf.out.2 h0
    have HCnt : Hid (∀ w5, Below w4.heap.size w4 w5 ∨ w4.grownBy w5 (some pm) → PmAt w5 pm (n + 1) (lkN A') → Kept (NP T pm) w4 w5 ∧ Turns (mapsP T pm) w w5 ∧ AdS tb w.heap.size [.string T.1, .slice a1 n1 m1, .slice a2 n2 m2, .slice a3 n3 m3, .map (some T.2.2.2.2)] cs pm w5 ∧ Calls Tryz.prog 22 #[.agg ([.string T.1, .slice a1 n1 m1, .slice a2 n2 m2, .slice a3 n3 m3, .map (some T.2.2.2.2)] : List Value).toArray, .agg cs.toArray, .int .i64 (-1)] w5.drew fun e w6 => e = .returned (.tuple #[]) ∧ AdS tb w.heap.size [.string T.1, .slice a1 n1 m1, .slice a2 n2 m2, .slice a3 n3 m3, .map (some T.2.2.2.2)] cs pm w6 ∧ TabAt w6 tb T [.string T.1, .slice a1 n1 m1, .slice a2 n2 m2, .slice a3 n3 m3, .map (some T.2.2.2.2)] pm P A' (N + 1 + (pApart x.1).length) (n + 1) ∧ Turns (mapsP T pm) w w6) := by
      rintro w5 hw hp5
      have hkb : Kept (NP T pm) w4 w5 := by
        rcases hw with hw | hw
        · exact Kept.below hw
        · exact Kept.grown hw (fun k e h => h (.inr (by injection e with e; exact e.symm)))
      have htu : Turns (mapsP T pm) w4 w5 := by
        rcases hw with hw | hw
        · exact Turns.below hw
        · exact Turns.grown hw (fun b e => .inr (by injection e with e; exact e.symm))
      have HS5 : AdS tb w.heap.size [.string T.1, .slice a1 n1 m1, .slice a2 n2 m2, .slice a3 n3 m3, .map (some T.2.2.2.2)] cs pm w5 := ⟨(HS.out _ hb4).1.kept hkb HT4.tb, (HS.out _ hb4).2.kept hkb HNL.out⟩
      have htw : Turns (mapsP T pm) w w5 := ((Turns.below HX.out.2.2.1).trans (Turns.below hb4)).trans htu
      refine ⟨hkb, htw, HS5, ?_⟩
      have HM5 : MapsAt w5 T N (fun t => cT t (othersN T.1 A)) (cO P (othersN T.1 A)) := HT4.m.on (fun b hb hlt => by
        rcases hw with hw | hw
        · exact hw.block b hlt
        · exact hw.block b hlt (fun e => HT4.d (by injection e with e; exact e ▸ hb)))
      have hnm : RTally (NM T) w5 [.string T.1, .slice a1 n1 m1, .slice a2 n2 m2, .slice a3 n3 m3, .map (some T.2.2.2.2)] T := RTally.firm.weak (RTally.firm.kept HT4.r hkb) (fun b _ h k => h (.inl k))
      have hxm : RPlaced (NM T) w5 cs x := RPlaced.firm.weak (RPlaced.firm.kept (RPlaced.firm.kept HX.out.2.1 (Kept.below hb4)) hkb) (fun b _ h k => h (.inl k))
      have HM5d : MapsAt w5.drew T N (fun t => cT t (othersN T.1 A)) (cO P (othersN T.1 A)) := HM5.on (fun _ _ _ => rfl)
      have HTc := tcount_calls (w := w5.drew) (by_ := -1) HM5d (show RTally (NM T) w5.drew _ T from hnm) (show RPlaced (NM T) w5.drew cs x from hxm) hN (.inr rfl)
      rw [HT.out.l, cTo_drop T.1 hperm, cOo_drop P T.1 hperm] at HTc
      refine HTc.mono ?_
      rintro e u ⟨rfl, hm, ht⟩
      have k := kept_nm (T := T) (show Turns (fun b => b ∈ mapsT T) w5 u from ⟨ht.os, ht.tape, ht.output, ht.size, ht.block⟩)
      have k2 : Kept (NP T pm) w5 u := k.weak (fun b h hb => h (.inl hb))
      refine ⟨rfl, ⟨HS5.1.kept k2 HT4.tb, HS5.2.kept k2 HNL.out⟩, ⟨HS5.1.kept k2 HT4.tb, RTally.firm.kept (RTally.firm.kept HT4.r hkb) k2, hm, hp5.same (ht.block pm hp5.lt HT4.d), HT4.d, HT4.l⟩, ?_⟩
      exact htw.trans ((Turns.drew _ _).trans (ht.weak (fun b _ h => .inl h)))
    by_cases h1 : lkN A lk = 1
    ·
      obtain ⟨D, hown, hDt, hDb⟩ := HT4.p
      have HDl : Hid (∀ u, u.ownsMap Tryz.prog 9 (plainElem Tryz.prog 3) pm n (D.del (kS lk)) → PmAt u pm (n + 1) (lkN A')) := fun u hu => ((PmAt.del hDt hDb hu).mono (Nat.le_succ _)).as (fun s => by rw [← hlks s, h1]; rfl)
      rw [h1] at hlk
      have HW4 : Hid (w4.ownsMap Tryz.prog 9 (plainElem Tryz.prog 3) pm n D) := hown
      clear hDt hDb hown HT4 HT HS HX HLf HNL hlb hlks hperm h0 h1
      go_upto_region 9 with fail
      go_wp2_with (first | (at_delete; refine wpList_delete_own _ rfl _ _ 96 9 rfl 3 law8s Tryz.underlying96 _ pm n _ rfl HW4.out _ _ rfl (kS_key hsl) ?_; intro w5 hown5 hturn5) | fail)
      have HC5 := HCnt.out w5 (.inr hturn5.grown) (HDl.out w5 hown5)
      clear HCnt HDl HW4 hown5 hturn5 hlk
      obtain ⟨hkb5, htw5, hs5, HTc⟩ := HC5
      clear cm
      go_upto_region 10 with fail
      refine t0 (AdS tb w.heap.size [.string T.1, .slice a1 n1 m1, .slice a2 n2 m2, .slice a3 n3 m3, .map (some T.2.2.2.2)] cs pm) hs5 (fun hHeld => ?_)
      refine' tk 0 ?_ ?_; rotate_left
      · intro u hu; clear hu; go_simp; try with_reducible rfl
      try go_frame
      refine' tk 1 ?_ ?_; rotate_left
      · intro u hu; clear hu; go_simp; try with_reducible rfl
      try go_frame
      refine' tk 2 ?_ ?_; rotate_left
      · intro u hu; clear hu; go_simp; try with_reducible rfl
      try go_frame
      refine' tk 3 ?_ ?_; rotate_left
      · intro u hu; have cp0 := (hu.1.2 0 _ rfl).1; have cp1 := (hu.1.2 1 _ rfl).1; have cp2 := (hu.1.2 2 _ rfl).1; have cp3 := (hu.1.2 3 _ rfl).1; have cp4 := (hu.1.2 4 _ rfl).1; clear hu; go_simp; try with_reducible rfl
      try go_frame
      refine' tq 4 (.agg cs.toArray) ?_ ?_
      · exact yieldsIf_load_mid rfl 41 _ rfl w.heap.size 0 rfl cs _ (fun u hu => hu.2.range) Tryz.underlying41 rfl hi17
      try go_frame
      refine tr 5 (fun K hK => ?_)
      go_simp
      refine HTc.mono ?_
      rintro e w6 ⟨rfl, ha6, htb6, htu6⟩
      go_wp2_with fail
      refine hK.out _ _ ha6 (fun _ => ?_)
      clear hK K hHeld
      try go_frame
      refine tz ?_
      have HE2 : Hid (TabAt w6 tb T [.string T.1, .slice a1 n1 m1, .slice a2 n2 m2, .slice a3 n3 m3, .map (some T.2.2.2.2)] pm P A' (N + 1 + (pApart x.1).length) (n + 1) ∧ Turns (mapsP T pm) w w6) := ⟨htb6, htu6⟩
      clear htb6 htu6 ha6 HTc hs5 htw5 hkb5
      go_wp2_with fail
      go_ret
      exact ⟨by rw [HA.out]; rfl, HE2.out⟩
    ·
      obtain ⟨w5, hup, hp5, hg5⟩ := HT4.p.put hn hsl (c := lkN A lk - 1) (by omega)
      have hwr : IntKind.i64.wrap (lkN A lk - 1) = lkN A lk - 1 := by rw [IntWalk.i64_left]; exact wrap64_sm8 (by omega) (by omega)
      have HC5 := HCnt.out w5 (.inr hg5) (hp5.as hlks)
      have hz0 : (lkN A lk == 0) = false := by simpa using h0
      have hz1 : (lkN A lk == 1) = false := by simpa using h1
      clear HCnt hp5 hg5 HT4 HT HS HX HLf HNL hlb hlks hperm h0 h1
      generalize lkN A lk = c at hlk hup hwr hz0 hz1
      skip
      obtain ⟨hkb5, htw5, hs5, HTc⟩ := HC5
      go_upto_region 10 with fail
      clear cm hlk hup
      refine t0 (AdS tb w.heap.size [.string T.1, .slice a1 n1 m1, .slice a2 n2 m2, .slice a3 n3 m3, .map (some T.2.2.2.2)] cs pm) hs5 (fun hHeld => ?_)
      refine' tk 0 ?_ ?_; rotate_left
      · intro u hu; clear hu; go_simp; try with_reducible rfl
      try go_frame
      refine' tk 1 ?_ ?_; rotate_left
      · intro u hu; clear hu; go_simp; try with_reducible rfl
      try go_frame
      refine' tk 2 ?_ ?_; rotate_left
      · intro u hu; clear hu; go_simp; try with_reducible rfl
      try go_frame
      refine' tk 3 ?_ ?_; rotate_left
      · intro u hu; have cp0 := (hu.1.2 0 _ rfl).1; have cp1 := (hu.1.2 1 _ rfl).1; have cp2 := (hu.1.2 2 _ rfl).1; have cp3 := (hu.1.2 3 _ rfl).1; have cp4 := (hu.1.2 4 _ rfl).1; clear hu; go_simp; try with_reducible rfl
      try go_frame
      refine' tq 4 (.agg cs.toArray) ?_ ?_
      · exact yieldsIf_load_mid rfl 41 _ rfl w.heap.size 0 rfl cs _ (fun u hu => hu.2.range) Tryz.underlying41 rfl hi17
      try go_frame
      refine tr 5 (fun K hK => ?_)
      go_simp
      refine HTc.mono ?_
      rintro e w6 ⟨rfl, ha6, htb6, htu6⟩
      go_wp2_with fail
      refine hK.out _ _ ha6 (fun _ => ?_)
      clear hK K hHeld
      try go_frame
      refine tz ?_
      have HE2 : Hid (TabAt w6 tb T [.string T.1, .slice a1 n1 m1, .slice a2 n2 m2, .slice a3 n3 m3, .map (some T.2.2.2.2)] pm P A' (N + 1 + (pApart x.1).length) (n + 1) ∧ Turns (mapsP T pm) w w6) := ⟨htb6, htu6⟩
      clear htb6 htu6 ha6 HTc hs5 htw5 hkb5
      go_wp2_with fail
      go_ret
      exact ⟨by rw [HA.out]; rfl, HE2.out⟩
end Go.Proofs.YtfnafgmengefaaaGreatDoor
