/- domains.count counts one more, or one fewer, at the labels' domain. Condition: the arguments lie as is said of them. Terms of a pod with a map each: near.wishesOf. Condition: the terms lie as is said of them. near.tallyOf: a tally of nothing placed. Condition: the pod lies as is said of it, and has fewer than 1,000,000,000 terms of a kind. -/
import Derived.Test.YtfnafgmengefaaaGreatDoorQ10
namespace Go.Proofs.YtfnafgmengefaaaGreatDoor
open Go.RowKit Go.Maps
set_option linter.unusedSimpArgs false
set_option maxRecDepth 100000

def addF (f : Lab → Int) (q : Lab → Bool) (c : Int) : Lab → Int := fun d => f d + (if q d = true then c else 0)
theorem addF_none {f : Lab → Int} {q : Lab → Bool} {c : Int} (h : ∀ d, q d = false) : ∀ d, f d = addF f q c d := fun d => by unfold addF; rw [h d]; simp
theorem addF_dom {f : Lab → Int} {L : List Lab} {key : ByteArray} {c : Int} (h : (getL L key).2 = true) : ∀ e, setF f (domL L key) (f (domL L key) + c) e = addF f (atD L key) c e := fun e => by
  by_cases q : e = domL L key
  · subst q; unfold addF; rw [setF_same, if_pos (atD_iff.2 ⟨h, rfl⟩)]
  · unfold addF; rw [setF_other q, if_neg (fun k => q (atD_iff.1 k).2)]; simp
theorem sl_okL {A : Where} {w : World} {a : Option Addr} {n cap : Nat} {L : List Lab} (h : SlAt RLabel 2 32 A w a n cap L) : ∀ l ∈ L, okL l := (labs_of h).2.1
theorem dom_ok {L : List Lab} {key : ByteArray} (hk : key.size ≤ 140737488355328) (hL : ∀ l ∈ L, okL l) (h : (getL L key).2 = true) : okL (domL L key) := ⟨hk, (hL _ (getL_mem h)).2⟩
def DcS (B mb : Nat) (key v : ByteArray) (c : Int) (u : World) : Prop := u.cell? ⟨B, 0, none⟩ = some (.string key) ∧ u.cell? ⟨B, 1, none⟩ = some (.string v) ∧ (Instr.lookup 64 (.map (some mb)) (.agg #[.string key, .string v]) false).run Tryz.prog u = .ok (.int .i64 c) u
set_option maxHeartbeats 4000000 in
theorem dcount_calls {w : World} {mb N : Nat} {f : Lab → Int} (hc : Hid (CntAt w mb N f)) (hN : N < 70368744177664) (a : Option Addr) (n cap : Nat) (A : Where) (L : List Lab) (key : ByteArray) (by_ : Int) (hL : Hid (SlAt RLabel 2 32 A w a n cap L)) (hk : key.size ≤ 140737488355328) (hby : by_ = 1 ∨ by_ = -1) :
    Calls Tryz.prog 47 #[.map (some mb), .slice a n cap, .string key, .int .i64 by_] w fun e w' => e = .returned (.tuple #[]) ∧ CntAt w' mb (N + 1) (addF f (atD L key) by_) ∧ Turns (fun b => b = mb) w w' := by
  have hD := domain_calls a n cap A L key w hL
  have HO : Hid ((getL L key).2 = true → okL (domL L key)) := dom_ok hk (sl_okL hL.out)
  have HF : Hid ((getL L key).2 = false → ∀ d, f d = addF f (atD L key) by_ d) := fun h => addF_none (fun d => by unfold atD; rw [h]; rfl)
  have HA : Hid ((getL L key).2 = true → ∀ e, setF f (key, (getL L key).1) (f (key, (getL L key).1) + by_) e = addF f (atD L key) by_ e) := fun h => addF_dom h
  have HB := hc.out.le (domL L key)
  simp only [domL] at HO HB
  clear hL
  generalize hg : addF f (atD L key) by_ = g at HF HA ⊢
  clear hg
  generalize (getL L key).1 = v at hD HO HA HB
  generalize (getL L key).2 = t at hD HO HF HA
  go_enter Tryz.func47, Tryz.ntmps47
  go_wp2_with fail
  refine hD.mono ?_
  clear hD
  rintro e w1 ⟨rfl, hb1⟩
  cases t
  · have HC : Hid (CntAt w1 mb (N + 1) g) := ((hc.out.on hb1).mono (Nat.le_succ _)).as (HF.out rfl)
    clear HO HF HA HB hc
    go_wp2_with fail
    refine bodyPost_ret (results_none rfl _ _ _) rfl ?_
    exact ⟨rfl, HC.out.on (by go_grown), Turns.below (on2 hb1 (by go_grown))⟩
  · have hok := HO.out rfl
    have hA := HA.out rfl
    clear HF HO HA
    obtain ⟨W2, hW2⟩ : ∃ W, W = w1.alloc (.cells #[.string key, .string v] 55) := ⟨_, rfl⟩
    have B2 : Below w.heap.size w W2 := by rw [hW2]; exact on2 hb1 (by go_grown)
    have q : BoxL W2 w1.heap.size [.string key, .string v] := by rw [hW2]; exact BoxL.new w1 55 [.string key, .string v]
    have hcm := hc.out.on B2
    have hne : w1.heap.size ≠ mb := fun e => by have h1 := hc.out.lt; have h2 := hb1.size; omega
    obtain ⟨D, hown, hT, hle⟩ := hcm
    obtain ⟨v0, st, u1, hme, hg1, hlk1, hst⟩ := ent_run hown.drew 64 Tryz.underlying64 (kL_key hok) (hT.1 _ hok).2 (by omega)
    have hwf : (Lit.int .i64 (f (key, v) + by_)).wf = true := WalkArith.wf_i64 (by omega)
    obtain ⟨w', hes, hown', hg'⟩ := hst _ hwf
    have hlk0 : (Instr.lookup 64 (.map (some mb)) (.agg #[.string key, .string v]) false).run Tryz.prog W2.drew = .ok (.int .i64 (f (key, v))) W2.drew := CntAt.look ⟨D, hown.drew, hT, hle⟩ _ Tryz.underlying64 hok
    have HS0 : Hid (DcS w1.heap.size mb key v (f (key, v)) W2.drew) := ⟨(q.2 0 _ rfl).1, (q.2 1 _ rfl).1, hlk0⟩
    have hc1 : ∀ j, u1.cell? ⟨w1.heap.size, j, none⟩ = W2.cell? ⟨w1.heap.size, j, none⟩ := fun j => World.cell?_of_block (w := W2.drew) (hg1.block _ q.1 (by simpa using hne))
    have HS1 : Hid (DcS w1.heap.size mb key v (f (key, v)) u1) := ⟨(hc1 0).trans (q.2 0 _ rfl).1, (hc1 1).trans (q.2 1 _ rfl).1, hlk1⟩
    have hc2 : ∀ j, w'.cell? ⟨w1.heap.size, j, none⟩ = W2.cell? ⟨w1.heap.size, j, none⟩ := fun j => World.cell?_of_block (w := W2.drew) (hg'.block _ q.1 (by simpa using hne))
    have e0 := (hc2 0).trans (q.2 0 _ rfl).1
    have e1 := (hc2 1).trans (q.2 1 _ rfl).1
    have HT2 : Hid (Turns (fun b => b = mb) w w') := (Turns.below B2.drew).trans (Turns.grown hg' (fun b e => by simpa using e.symm))
    have hm : IsMap D := hown.isMap
    obtain ⟨c2, hlk2, ha2, _⟩ := hown'.lookup_int lawL Tryz.underlying64 Tryz.underlying3 (zeroI8 w') (kL_key hok)
    rw [atKey_put_same hm (kL_is _)] at ha2
    obtain rfl : f (key, v) + by_ = c2 := by simpa using ha2
    have HLe : Hid (∀ e, -((N + 1 : Nat) : Int) ≤ g e ∧ g e ≤ ((N + 1 : Nat) : Int)) := fun e => by
      rw [← hA e]
      by_cases qe : e = (key, v)
      · subst qe; rw [setF_same]; omega
      · rw [setF_other qe]; have := hle e; omega
    have HP : Hid (f (key, v) + by_ ≠ 0 → TellsF (D.put (kL (key, v)) (.lit (.int .i64 (f (key, v) + by_)))) g) := fun hz => by
      have := hT.put hm hok hz
      rwa [show setF f (key, v) (f (key, v) + by_) = g from funext hA] at this
    have HQ : Hid (f (key, v) + by_ = 0 → TellsF ((D.put (kL (key, v)) (.lit (.int .i64 (f (key, v) + by_)))).del (kL (key, v))) g) := fun hz => by
      have h1 := hT.del hok (.lit (.int .i64 (f (key, v) + by_)))
      have h2 := funext hA
      rw [hz] at h2
      rwa [show setF f (key, v) 0 = g from h2] at h1
    clear hA hT ha2 hm
    have hsum : -9223372036854775808 ≤ f (key, v) + by_ ∧ f (key, v) + by_ ≤ 9223372036854775807 := by omega
    have hwr : IntKind.i64.wrap (f (key, v) + by_) = f (key, v) + by_ := IntWalk.i64_in _ hsum
    generalize hfc : f (key, v) = c at *
    clear hlk0 hlk1 hst hg1 hg' hc1 hc2 q B2 hb1 hwf hown hle hc hN HB hfc f
    go_upto_region 2 with fail
    rw [← hW2]
    clear hW2
    refine u0 7 (DcS w1.heap.size mb key v c) HS0.out (fun hHeld => ?_)
    refine' uk 0 ?_ ?_; rotate_left
    · intro u ⟨_, _, _⟩; go_simp; try with_reducible rfl
    try go_frame
    refine' uk 1 ?_ ?_; rotate_left
    · intro u ⟨_, _, _⟩; go_simp; try with_reducible rfl
    try go_frame
    refine' uk 3 ?_ ?_; rotate_left
    · intro u ⟨_, _, _⟩; go_simp; try with_reducible rfl
    try go_frame
    refine' uk 2 ?_ ?_; rotate_left
    · intro u ⟨_, _, _⟩; go_simp; try with_reducible rfl
    try go_frame
    refine' uk 4 ?_ ?_; rotate_left
    · intro u ⟨_, _, _⟩; go_simp; try with_reducible rfl
    try go_frame
    refine ur 5 (fun K hK => ?_)
    go_simp
    refine hK.out _ _ HS1.out (fun hHeld2 => ?_)
    clear hK K hHeld; have hHeld := hHeld2; clear hHeld2
    try go_frame
    refine' uk 6 ?_ ?_; rotate_left
    · intro u ⟨_, _, _⟩; go_simp; try with_reducible rfl
    try go_frame
    refine uz 7 (fun K hK => ?_)
    go_simp
    refine hK.out _ (NoPanic.normal ?_)
    try go_frame
    clear hK K hHeld
    by_cases hz : c + by_ = 0
    · have HE := HQ.out hz
      have hz' : (c + by_ == 0) = true := by simpa using hz
      have hzr : Hid (c + by_ = 0) := hz
      clear hz HP HQ
      go_wp2_with (first | (at_delete; refine wpList_delete_own _ rfl _ _ 64 55 rfl 3 lawL Tryz.underlying64 _ mb (N + 1) _ rfl hown' _ _ rfl (kL_key hok) ?_; intro w3 hown3 hturn3) | fail)
      go_end0
      exact ⟨rfl, ⟨_, hown3, HE, HLe.out⟩, HT2.out.trans (Turns.map hturn3 rfl)⟩
    · have HE := HP.out hz
      have hz' : (c + by_ == 0) = false := by simpa using hz
      clear hz HP HQ
      go_wp2_with fail
      go_end0
      exact ⟨rfl, ⟨_, hown', HE, HLe.out⟩, HT2.out⟩
end Go.Proofs.YtfnafgmengefaaaGreatDoor
namespace Go.Proofs.YtfnafgmengefaaaGreatDoor
open Go.RowKit Go.Maps
set_option linter.unusedSimpArgs false
set_option maxRecDepth 100000

def RMap : Rep Nat := fun _ _ cs b => cs = [.map (some b)]
theorem RMap.firm : Firm RMap 1 := {
  len := (by rintro A w cs x rfl; rfl),
  one := (by rintro A w cs x rfl u hu; simp at hu; subst hu; rfl),
  kept := fun h _ => h,
  weak := fun h _ => h }
/-- A term, and the block of its map. -/
abbrev WishD := TermD × Nat
def RWish : Rep WishD := RPair RTerm RMap
theorem RWish.firm : Firm RWish 3 := Firm.pair RTerm.firm RMap.firm
theorem RWish.out {A : Where} {w : World} {cs : List Value} {x : WishD} (h : RWish A w cs x) : ∃ h0 : Hd, cs = [.slice h0.1 h0.2.1 h0.2.2, .string x.1.2, .map (some x.2)] ∧ SlAt RReq 3 48 A w h0.1 h0.2.1 h0.2.2 x.1.1 ∧ x.1.2.size ≤ 140737488355328 := by
  obtain ⟨c, d, rfl, h1, rfl⟩ := h
  obtain ⟨h0, rfl, h2, h3⟩ := h1.out
  exact ⟨h0, rfl, h2, h3⟩
theorem RWish.mk {A : Where} {w : World} {x : WishD} {h0 : Hd} (p0 : SlAt RReq 3 48 A w h0.1 h0.2.1 h0.2.2 x.1.1) (p1 : x.1.2.size ≤ 140737488355328) : RWish A w [.slice h0.1 h0.2.1 h0.2.2, .string x.1.2, .map (some x.2)] x :=
  ⟨_, _, rfl, RTerm.mk p0 p1, rfl⟩
theorem infoWish : (Tryz.prog.info? 104).map (fun i => (i.zero, i.size, i.bytes)) = some (some (.agg #[.slice none 0 0, .string ⟨#[]⟩, .map none]), 3, 48) := by kernel_rfl
theorem take_at8 {α : Type} [Inhabited α] {L : List α} {k : Nat} (h : k < L.length) : L.take k ++ [L.getD k default] = L.take (k + 1) := by
  rw [List.take_add_one, List.getD_eq_getElem?_getD, List.getElem?_eq_getElem h]
  rfl
/-- A block that is no map. -/
def NotMap (w : World) (b : Nat) : Prop := ∀ es c, w.heap[b]? ≠ some (.map es c)
theorem CntAt.map {w : World} {mb n : Nat} {f : Lab → Int} (h : CntAt w mb n f) : ¬ NotMap w mb := by
  obtain ⟨D, ⟨es, ck, h1, _⟩, _⟩ := h
  exact fun k => k es ck h1
section
variable {α : Type} [Inhabited α] {R : Rep α} {k : Nat}
theorem Row.notMap {A : Where} {w0 u : World} {e : TypeId} {v : Value} {L : List α} (h : Row R k A w0 u e v L) {b : Nat} (hb : v.ownBlock = some b) : NotMap u b ∧ Fresh w0 b ∧ b < u.heap.size := by
  obtain ⟨xs, h1, h2⟩ := h
  have h3 := h1.2
  obtain ⟨_, ⟨rfl, _⟩ | ⟨g, cap, cur, rfl, hB, hg, _⟩⟩ := h3
  · simp [Value.ownBlock] at hb
  · obtain rfl : g = b := by simpa [Value.ownBlock] using hb
    refine ⟨fun es c hh => ?_, hB, (Array.getElem?_eq_some_iff.1 hg).1⟩
    rw [hh] at hg; cases hg
/-- What a row is in the end: its own block is no map. -/
theorem Row.slN (hR : Firm R k) {bytes : Nat} {A : Where} {w0 u : World} {e : TypeId} {v : Value} {L : List α} (h : Row R k A w0 u e v L) (hb : L.length * bytes ≤ 140737488351232) :
    ∃ a cap, v = .slice a L.length cap ∧ SlAt R k bytes (fun b => A b ∨ (Fresh w0 b ∧ NotMap u b)) u a L.length cap L := by
  have h0 := h
  obtain ⟨xs, h1, h2⟩ := h
  obtain ⟨a, cap, e1, h3⟩ := sl_of_owns (bytes := bytes) hR h1.2 h2 hb
  refine ⟨a, cap, e1, h3.weak hR (fun b _ hb => ?_)⟩
  rcases hb with hb | hb
  · exact .inl hb.1
  · exact .inr ⟨(h0.notMap hb).2.1, (h0.notMap hb).1⟩
end
/-- Maps of nothing, each a block of its own, that have come since w. -/
structure Zeros (w u : World) (L : List WishD) : Prop where
  c : ∀ t ∈ L, CntAt u t.2 0 (fun _ => 0)
  f : ∀ t ∈ L, w.heap.size ≤ t.2
  n : (L.map Prod.snd).Nodup
theorem Zeros.on {w u u' : World} {L : List WishD} (h : Zeros w u L) (hb : ∀ b, b ∈ L.map Prod.snd → b < u.heap.size → u'.heap[b]? = u.heap[b]?) : Zeros w u' L :=
  ⟨fun t ht => (h.c t ht).same (hb t.2 (List.mem_map.2 ⟨t, ht, rfl⟩) (h.c t ht).lt), h.f, h.n⟩
theorem Zeros.snoc {w u : World} {L : List WishD} (h : Zeros w u L) (hw : w.heap.size ≤ u.heap.size) (t : TermD) : Zeros w (u.alloc (.map #[] 0)) (L ++ [(t, u.heap.size)]) := by
  have h1 := h.on (u' := u.alloc (.map #[] 0)) (fun b _ hb => ((Below.refl _ u).alloc (Nat.le_refl _) _).block b hb)
  refine ⟨fun x hx => ?_, fun x hx => ?_, ?_⟩
  · rcases List.mem_append.1 hx with hx | hx
    · exact h1.c x hx
    · obtain rfl : x = (t, u.heap.size) := by simpa using hx
      exact CntAt.made u
  · rcases List.mem_append.1 hx with hx | hx
    · exact h.f x hx
    · obtain rfl : x = (t, u.heap.size) := by simpa using hx
      exact hw
  · rw [List.map_append, List.nodup_append]
    refine ⟨h.n, by simp, fun a ha b hb => ?_⟩
    obtain ⟨x, hx, rfl⟩ := List.mem_map.1 ha
    have := (h.c x hx).lt
    simp at hb
    omega
set_option maxHeartbeats 4000000 in
theorem wishesOf_calls (a : Option Addr) (n cap : Nat) (A : Where) (L : List TermD) (w : World) (hL : Hid (SlAt RTerm 2 40 A w a n cap L)) (hA : ∀ b, A b → b < w.heap.size) (hn : n < 1000000000) :
    Calls Tryz.prog 44 #[.slice a n cap] w fun e w' => ∃ a' c' M, e = .returned (.slice a' n c') ∧ SlAt RWish 3 48 (fun b => A b ∨ (Fresh w b ∧ NotMap w' b)) w' a' n c' M ∧ M.map Prod.fst = L ∧ Zeros w w' M ∧ Below w.heap.size w w' := by
  have hlen : Hid (L.length = n) := hL.out.1
  have hmm := @run_makeMap Tryz.prog
  go_enter Tryz.func44, Tryz.ntmps44
  go_wp2_with fail
  go_loopw [3, 8] (fun o i wr => ∃ (k : Nat) (M : List WishD), k ≤ n ∧ i = .int .i64 k ∧ Hid (Row RWish 3 A w wr 104 o M) ∧ Hid (Zeros w wr M) ∧ Hid (M.map Prod.fst = L.take k)) (fun _ i _ => n - (intOf i).toNat)
  case atStart => exact ⟨0, [], Nat.zero_le _, rfl, Row.nil _ _ _, ⟨fun _ h => (by cases h), fun _ h => (by cases h), List.nodup_nil⟩, rfl⟩
  case round =>
    obtain ⟨k, M, hk, rfl, hrow, hz, hM⟩ := hrel
    have hbel : Below w.heap.size w wr := hrow.out.below
    by_cases hlt : k < n
    · obtain ⟨B, off, rfl, hB, hAB, cs, hr, hv⟩ := hL.out.get hlt
      obtain ⟨⟨b1, b2, b3⟩, rfl, hreq, hkey⟩ := hr.out
      simp only at hreq hkey hv
      have d0 := (hbel.cell (p := ⟨B, off + k * 2 + 0, none⟩) hB).trans (hv 0 _ rfl)
      have d1 := (hbel.cell (p := ⟨B, off + k * 2 + 1, none⟩) hB).trans (hv 1 _ rfl)
      rw [Nat.add_zero] at d0
      clear hr hv
      generalize hx : L.getD k default = x at hreq hkey d0 d1
      have HT : Hid (M.map Prod.fst ++ [x] = L.take (k + 1)) := by rw [Hid, hM.out, ← hx]; exact take_at8 (by rw [hlen.out]; exact hlt)
      have hMl : Hid (M.length = k) := by have := congrArg List.length hM.out; rw [List.length_map, List.length_take, hlen.out, Nat.min_eq_left hk] at this; exact this
      obtain ⟨V, hV⟩ : ∃ V, V = (wr.alloc (.cells #[.slice b1 b2 b3, .string x.2] 80)).alloc (.map #[] 0) := ⟨_, rfl⟩
      have hVs : V.heap.size = wr.heap.size + 1 + 1 := by rw [hV]; simp
      have hbV : Below wr.heap.size wr (V.alloc (.cells #[.slice b1 b2 b3, .string x.2, .map (some (wr.heap.size + 1))] 104)) := by rw [hV]; go_grown
      have HR : Hid (Row RWish 3 A w (V.alloc (.cells #[.slice b1 b2 b3, .string x.2, .map (some (wr.heap.size + 1))] 104)) 104 u3 M) := hrow.out.on RWish.firm hbV
      have HZ : Hid (Zeros w (V.alloc (.cells #[.slice b1 b2 b3, .string x.2, .map (some (wr.heap.size + 1))] 104)) (M ++ [(x, wr.heap.size + 1)])) := by
        have h1 := (hz.out.on (u' := wr.alloc (.cells #[.slice b1 b2 b3, .string x.2] 80)) (fun b _ hb => ((Below.refl _ wr).alloc (Nat.le_refl _) _).block b hb)).snoc (Nat.le_trans hbel.size (by simp)) x
        rw [World.size_alloc] at h1
        rw [← hV] at h1
        exact h1.on (fun b _ hb => ((Below.refl _ V).alloc (Nat.le_refl _) _).block b hb)
      have HCh : Hid (Chunks RWish 3 (fun b => A b ∧ u3.ownBlock ≠ some b) (V.alloc (.cells #[.slice b1 b2 b3, .string x.2, .map (some (wr.heap.size + 1))] 104)) [.slice b1 b2 b3, .string x.2, .map (some (wr.heap.size + 1))] [(x, wr.heap.size + 1)]) :=
        chunk_one RWish.firm (RWish.mk (x := (x, wr.heap.size + 1)) (h0 := (b1, b2, b3)) ((hreq.on RReq.firm (on2 hbel hbV)).weak RReq.firm (fun b _ hb => ⟨hb, fun e => by have h2 : w.heap.size ≤ b := (hrow.out.notMap e).2.1; have := hA b hb; omega⟩)) hkey)
      have HX : Hid (∀ j y, ([.slice b1 b2 b3, .string x.2, .map (some (wr.heap.size + 1))] : List Value)[j]? = some y → (V.alloc (.cells #[.slice b1 b2 b3, .string x.2, .map (some (wr.heap.size + 1))] 104)).cell? ((⟨wr.heap.size + 1 + 1, 0, none⟩ : Addr).add j) = some y) := by have := one_cells V [.slice b1 b2 b3, .string x.2, .map (some (wr.heap.size + 1))] 104; rw [hVs] at this; exact this
      have HB3 : Hid ((M.length + [(x, wr.heap.size + 1)].length) * 48 ≤ 140737488355328) := by rw [Hid, hMl.out]; simp; omega
      have HNZ : Hid (∀ v1 w1, (V.alloc (.cells #[.slice b1 b2 b3, .string x.2, .map (some (wr.heap.size + 1))] 104)).grownBy w1 u3.ownBlock → Row RWish 3 A w w1 104 v1 (M ++ [(x, wr.heap.size + 1)]) → Zeros w w1 (M ++ [(x, wr.heap.size + 1)])) := fun v1 w1 hg _ => HZ.out.on (fun b hb hlt' => hg.block b hlt' (fun e => by
        obtain ⟨t, ht, rfl⟩ := List.mem_map.1 hb
        exact (HZ.out.c t ht).map (HR.out.notMap e.symm).1))
      have HW : Hid (V.alloc (.cells #[.slice b1 b2 b3, .string x.2, .map (some (wr.heap.size + 1))] 104) = ((wr.alloc (.cells #[.slice b1 b2 b3, .string x.2] 80)).alloc (.map #[] 0)).alloc (.cells #[.slice b1 b2 b3, .string x.2, .map (some (wr.heap.size + 1))] 104)) := by rw [Hid, hV]
      clear hrow hz hM hMl hbV hV hVs HZ hreq hL hx hB hAB
      go_wp2_with (at_builtin; rw [← HW.out]; go_must (refine row_append RWish.firm (A := A) (w0 := w) rfl _ _ 62 104 rfl _ 48 infoWish Tryz.underlying62 rfl (by decide) (by decide) _ _ rfl HR.out ⟨wr.heap.size + 1 + 1, 0, none⟩ 1 1 [.slice b1 b2 b3, .string x.2, .map (some (wr.heap.size + 1))] [(x, wr.heap.size + 1)] rfl rfl HCh.out HX.out (by simp [Value.oneCell']) HB3.out ?_); intro v1 w1 hrow1 hg1)
      have HRow1 : Hid (Row RWish 3 A w w1 104 v1 (M ++ [(x, wr.heap.size + 1)])) := hrow1
      have HZ1 := HNZ.out v1 w1 hg1 hrow1
      clear hrow1 hg1 HR HCh HX HB3 HNZ HW
      go_wp2_with fail
      go_roundw
      case rel => exact ⟨k + 1, M ++ [(x, wr.heap.size + 1)], by omega, by go_num, HRow1, HZ1, by rw [Hid, List.map_append]; exact HT.out⟩
      case measure => simp [intOf]; omega
    · obtain rfl : k = n := by omega
      have hMl : M.length = k := by have := congrArg List.length hM.out; rw [List.length_map, List.length_take, hlen.out, Nat.min_self] at this; exact this
      have hML : M.map Prod.fst = L := by rw [hM.out]; exact List.take_of_length_le (by rw [hlen.out]; exact Nat.le_refl _)
      obtain ⟨a', c', rfl, hs⟩ := hrow.out.slN (bytes := 48) RWish.firm (by rw [hMl]; omega)
      rw [hMl] at hs ⊢
      have HE : Hid (SlAt RWish 3 48 (fun b => A b ∨ (Fresh w b ∧ NotMap wr b)) wr a' k c' M ∧ M.map Prod.fst = L ∧ Zeros w wr M ∧ Below w.heap.size w wr) := ⟨hs, hML, hz.out, hbel⟩
      clear hs hML hz hrow hM hMl
      go_wp2_with fail
      go_ret
      exact ⟨a', c', M, rfl, HE.out⟩
end Go.Proofs.YtfnafgmengefaaaGreatDoor
namespace Go.Proofs.YtfnafgmengefaaaGreatDoor
open Go.RowKit Go.Maps
set_option linter.unusedSimpArgs false
set_option maxRecDepth 100000

/-- A tally: name, labels, terms near and apart with their maps' blocks, the map of others. -/
abbrev TalD := ByteArray × List Lab × List WishD × List WishD × Nat
abbrev tNear (T : TalD) : List WishD := T.2.2.1
abbrev tApart (T : TalD) : List WishD := T.2.2.2.1
abbrev tOth (T : TalD) : Nat := T.2.2.2.2
def RTally : Rep TalD := RPair RStr (RPair (RSl RLabel 2 32) (RPair (RSl RWish 3 48) (RPair (RSl RWish 3 48) RMap)))
theorem RTally.firm : Firm RTally 5 := Firm.pair RStr.firm (Firm.pair (RSl.firm RLabel.firm) (Firm.pair (RSl.firm RWish.firm) (Firm.pair (RSl.firm RWish.firm) RMap.firm)))
theorem RTally.out {A : Where} {w : World} {cs : List Value} {x : TalD} (h : RTally A w cs x) : ∃ h1 h2 h3 : Hd, cs = [.string x.1, .slice h1.1 h1.2.1 h1.2.2, .slice h2.1 h2.2.1 h2.2.2, .slice h3.1 h3.2.1 h3.2.2, .map (some x.2.2.2.2)] ∧ x.1.size ≤ 140737488355328 ∧ SlAt RLabel 2 32 A w h1.1 h1.2.1 h1.2.2 x.2.1 ∧ SlAt RWish 3 48 A w h2.1 h2.2.1 h2.2.2 x.2.2.1 ∧ SlAt RWish 3 48 A w h3.1 h3.2.1 h3.2.2 x.2.2.2.1 := by
  obtain ⟨c, d, rfl, ⟨rfl, h0⟩, c1, d1, rfl, ⟨a1, n1, m1, rfl, s1⟩, c2, d2, rfl, ⟨a2, n2, m2, rfl, s2⟩, c3, d3, rfl, ⟨a3, n3, m3, rfl, s3⟩, rfl⟩ := h
  exact ⟨(a1, n1, m1), (a2, n2, m2), (a3, n3, m3), rfl, h0, s1, s2, s3⟩
theorem RTally.mk {A : Where} {w : World} {x : TalD} {h1 h2 h3 : Hd} (p0 : x.1.size ≤ 140737488355328) (p1 : SlAt RLabel 2 32 A w h1.1 h1.2.1 h1.2.2 x.2.1) (p2 : SlAt RWish 3 48 A w h2.1 h2.2.1 h2.2.2 x.2.2.1) (p3 : SlAt RWish 3 48 A w h3.1 h3.2.1 h3.2.2 x.2.2.2.1) : RTally A w [.string x.1, .slice h1.1 h1.2.1 h1.2.2, .slice h2.1 h2.2.1 h2.2.2, .slice h3.1 h3.2.1 h3.2.2, .map (some x.2.2.2.2)] x :=
  ⟨_, _, rfl, ⟨rfl, p0⟩, _, _, rfl, ⟨_, _, _, rfl, p1⟩, _, _, rfl, ⟨_, _, _, rfl, p2⟩, _, _, rfl, ⟨_, _, _, rfl, p3⟩, rfl⟩
theorem sizeTal : (Tryz.prog.info? 66).map (·.size) = some 5 := by kernel_rfl
theorem sizePl : (Tryz.prog.info? 41).map (·.size) = some 17 := by kernel_rfl
theorem sizePo : (Tryz.prog.info? 33).map (·.size) = some 16 := by kernel_rfl
theorem sizeWi : (Tryz.prog.info? 104).map (·.size) = some 3 := by kernel_rfl
/-- The blocks of a tally's maps. -/
def mapsT (T : TalD) : List Nat := (tNear T ++ tApart T).map Prod.snd ++ [tOth T]
abbrev NM (T : TalD) : Where := fun b => b ∉ mapsT T
/-- The maps tell g of each term, and o of those that keep apart. -/
structure MapsAt (u : World) (T : TalD) (N : Nat) (g : TermD → Lab → Int) (o : Lab → Int) : Prop where
  c : ∀ t ∈ tNear T ++ tApart T, CntAt u t.2 N (g t.1)
  o : CntAt u (tOth T) N o
  n : (mapsT T).Nodup
theorem MapsAt.on {u u' : World} {T : TalD} {N : Nat} {g : TermD → Lab → Int} {o : Lab → Int} (h : MapsAt u T N g o) (hb : ∀ b, b ∈ mapsT T → b < u.heap.size → u'.heap[b]? = u.heap[b]?) : MapsAt u' T N g o :=
  ⟨fun t ht => (h.c t ht).same (hb t.2 (by unfold mapsT; exact List.mem_append.2 (.inl (List.mem_map.2 ⟨t, ht, rfl⟩))) (h.c t ht).lt), h.o.same (hb _ (by unfold mapsT; simp) h.o.lt), h.n⟩
theorem MapsAt.below {u u' : World} {T : TalD} {N : Nat} {g : TermD → Lab → Int} {o : Lab → Int} (h : MapsAt u T N g o) (hb : Below u.heap.size u u') : MapsAt u' T N g o := h.on (fun b _ hlt => hb.block b hlt)
theorem MapsAt.lt {u : World} {T : TalD} {N : Nat} {g : TermD → Lab → Int} {o : Lab → Int} (h : MapsAt u T N g o) {b : Nat} (hb : b ∈ mapsT T) : b < u.heap.size := by
  unfold mapsT at hb
  rcases List.mem_append.1 hb with hb | hb
  · obtain ⟨t, ht, rfl⟩ := List.mem_map.1 hb; exact (h.c t ht).lt
  · obtain rfl : b = tOth T := by simpa using hb
    exact h.o.lt
theorem MapsAt.isMap {u : World} {T : TalD} {N : Nat} {g : TermD → Lab → Int} {o : Lab → Int} (h : MapsAt u T N g o) {b : Nat} (hb : b ∈ mapsT T) : ¬ NotMap u b := by
  unfold mapsT at hb
  rcases List.mem_append.1 hb with hb | hb
  · obtain ⟨t, ht, rfl⟩ := List.mem_map.1 hb; exact (h.c t ht).map
  · obtain rfl : b = tOth T := by simpa using hb
    exact h.o.map
/-- What a tally of nothing is. -/
structure Tal0 (X : Where) (w u : World) (ts : List Value) (T : TalD) (p : PodD) : Prop where
  r : RTally (fun b => NM T b ∧ X b) u ts T
  n : T.1 = p.1
  l : T.2.1 = pLabs p
  a : (tNear T).map Prod.fst = pNear p
  b : (tApart T).map Prod.fst = pApart p
  m : MapsAt u T 0 (fun _ _ => 0) (fun _ => 0)
  f : ∀ b ∈ mapsT T, w.heap.size ≤ b
/-- Put together. -/
theorem tal0_mk {w u w1' w2' : World} {p : PodD} {a2 a10 a11 : Option Addr} {n2 m2 n10 m10 n11 m11 : Nat} {M1 M2 : List WishD} {ob : Nat} {u1 u2 : World}
    (hb : Below w.heap.size w u) (p0 : p.1.size ≤ 140737488355328) (s2 : SlAt RLabel 2 32 (fun b => b < w.heap.size) w a2 n2 m2 (pLabs p))
    (h1 : SlAt RWish 3 48 (fun b => b < w.heap.size ∨ (Fresh u1 b ∧ NotMap w1' b)) w1' a10 n10 m10 M1) (e1 : M1.map Prod.fst = pNear p) (z1 : Zeros u1 w1' M1) (b1 : Below w1'.heap.size w1' u) (f1 : w.heap.size ≤ u1.heap.size) (hbw1 : w.heap.size ≤ w1'.heap.size)
    (h2 : SlAt RWish 3 48 (fun b => b < w.heap.size ∨ (Fresh u2 b ∧ NotMap w2' b)) w2' a11 n11 m11 M2) (e2 : M2.map Prod.fst = pApart p) (z2 : Zeros u2 w2' M2) (b2 : Below w2'.heap.size w2' u) (f2 : w1'.heap.size ≤ u2.heap.size)
    (ho : CntAt u ob 0 (fun _ => 0)) (fo : w.heap.size ≤ ob) (d1 : ∀ b, u1.heap.size ≤ b → b < w1'.heap.size → b ≠ ob) (d2 : ∀ b, u2.heap.size ≤ b → b < w2'.heap.size → b ≠ ob) (X : Where) (x0 : ∀ b, b < w.heap.size → X b) (x1 : ∀ b, u1.heap.size ≤ b → X b) (x2 : ∀ b, u2.heap.size ≤ b → X b) :
    Tal0 X w u [.string p.1, .slice a2 n2 m2, .slice a10 n10 m10, .slice a11 n11 m11, .map (some ob)] (p.1, pLabs p, M1, M2, ob) p := by
  have Z1 : Zeros u1 u M1 := z1.on (fun b _ hlt => b1.block b hlt)
  have Z2 : Zeros u2 u M2 := z2.on (fun b _ hlt => b2.block b hlt)
  have hM : MapsAt u (p.1, pLabs p, M1, M2, ob) 0 (fun _ _ => 0) (fun _ => 0) := by
    refine ⟨fun t ht => ?_, ho, ?_⟩
    · rcases List.mem_append.1 ht with ht | ht
      · exact Z1.c t ht
      · exact Z2.c t ht
    · show (((M1 ++ M2).map Prod.snd) ++ [ob]).Nodup
      rw [List.map_append, List.nodup_append, List.nodup_append]
      refine ⟨⟨Z1.n, Z2.n, fun x hx y hy => ?_⟩, by simp, fun x hx y hy => ?_⟩
      · obtain ⟨t, ht, rfl⟩ := List.mem_map.1 hx
        obtain ⟨s, hs, rfl⟩ := List.mem_map.1 hy
        have := (z1.c t ht).lt
        have := z2.f s hs
        omega
      · obtain rfl : y = ob := by simpa using hy
        rcases List.mem_append.1 hx with hx | hx
        · obtain ⟨t, ht, rfl⟩ := List.mem_map.1 hx; exact d1 _ (z1.f t ht) (z1.c t ht).lt
        · obtain ⟨t, ht, rfl⟩ := List.mem_map.1 hx; exact d2 _ (z2.f t ht) (z2.c t ht).lt
  have hF : ∀ b ∈ mapsT (p.1, pLabs p, M1, M2, ob), w.heap.size ≤ b := fun b hb => by
    unfold mapsT at hb
    rcases List.mem_append.1 hb with hb | hb
    · obtain ⟨t, ht, rfl⟩ := List.mem_map.1 hb
      rcases List.mem_append.1 ht with ht | ht
      · exact Nat.le_trans f1 (z1.f t ht)
      · have h3 := z2.f t ht
        exact Nat.le_trans hbw1 (Nat.le_trans f2 h3)
    · obtain rfl : b = ob := by simpa using hb
      exact fo
  refine ⟨RTally.mk (x := (p.1, pLabs p, M1, M2, ob)) (h1 := (a2, n2, m2)) (h2 := (a10, n10, m10)) (h3 := (a11, n11, m11)) p0 ?_ ?_ ?_, rfl, rfl, e1, e2, hM, hF⟩
  · exact (s2.on RLabel.firm hb).weak RLabel.firm (fun b _ h => ⟨fun hm => by have := hF b hm; omega, x0 b h⟩)
  · refine SlAt.weak RWish.firm (A := fun b => b < w.heap.size ∨ (b < w1'.heap.size ∧ NotMap w1' b ∧ X b)) ((h1.weak RWish.firm (fun b hlt h => ?_)).on RWish.firm b1) (fun b _ h => ⟨fun hm => ?_, ?_⟩)
    · rcases h with h | h
      · exact .inl h
      · exact .inr ⟨hlt, h.2, x1 b h.1⟩
    · rcases h with h | h
      · have := hF b hm; omega
      · exact hM.isMap hm (fun es c he => h.2.1 es c (by rw [← b1.block b h.1]; exact he))
    · rcases h with h | h
      · exact x0 b h
      · exact h.2.2
  · refine SlAt.weak RWish.firm (A := fun b => b < w.heap.size ∨ (b < w2'.heap.size ∧ NotMap w2' b ∧ X b)) ((h2.weak RWish.firm (fun b hlt h => ?_)).on RWish.firm b2) (fun b _ h => ⟨fun hm => ?_, ?_⟩)
    · rcases h with h | h
      · exact .inl h
      · exact .inr ⟨hlt, h.2, x2 b h.1⟩
    · rcases h with h | h
      · have := hF b hm; omega
      · exact hM.isMap hm (fun es c he => h.2.1 es c (by rw [← b2.block b h.1]; exact he))
    · rcases h with h | h
      · exact x0 b h
      · exact h.2.2
theorem BoxL.notMap {u : World} {D : Nat} {c : Value} {cs : List Value} (h : BoxL u D (c :: cs)) : NotMap u D := fun es k hh => by
  have h1 := (h.2 0 c rfl).1
  simp [World.cell?, hh] at h1
/-- A tally stays while a variable that it does not lie in is written. -/
theorem Tal0.set {X : Where} {w u : World} {ts : List Value} {T : TalD} {p : PodD} (h : Tal0 X w u ts T p) {q : Addr} (hq : NotMap u q.block) (hX : ¬ X q.block) (v : Value) : Tal0 X w (u.setCell q v) ts T p :=
  ⟨RTally.firm.kept h.r (Kept.set (fun k => hX k.2) v), h.n, h.l, h.a, h.b, h.m.on (fun b hb _ => Below.heap_setCell u q v b (fun e => h.m.isMap hb (e ▸ hq))), h.f⟩
theorem Tal0.any {X : Where} {w u : World} {ts : List Value} {T : TalD} {p : PodD} (h : Tal0 X w u ts T p) : Tal0 (fun _ => True) w u ts T p :=
  ⟨RTally.firm.weak h.r (fun _ _ k => ⟨k.1, trivial⟩), h.n, h.l, h.a, h.b, h.m, h.f⟩
end Go.Proofs.YtfnafgmengefaaaGreatDoor
