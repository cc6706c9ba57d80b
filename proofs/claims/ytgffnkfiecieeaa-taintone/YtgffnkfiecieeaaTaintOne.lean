/- The law TaintOne holds of the program: a taint more keeps off no fewer, and one who bears it sees no difference; the chapter's example comes out. For every input; no condition. -/
import Derived.Test.YtgffnkfiecieeaaTOneBase
namespace Go.Proofs.Ytgffnkfiecieeaa.taintOne
open Go.ChangeShapes Go.WideShapes Go.ChangeAt Go.RowKit
set_option linter.unusedSimpArgs false

/-- How the answers stand to each other, by whether the taint is borne and by its effect. -/
theorem one_paths (e : Int) (pb qb br : Bool) (n m : Nat) (HQ : qb = (pb || ((e == 1) && !br))) (HM : m = n + (if (e == 2) && !br then 1 else 0)) :
    (br = true ∧ qb = pb ∧ m = n) ∨ (br = false ∧ ∃ e1 e2 : Bool, (e == 1) = e1 ∧ (e == 2) = e2 ∧ (e != 2) = !e2 ∧ ((m : Int) == (n : Int) + 1) = e2 ∧ ((m : Int) == (n : Int)) = !e2 ∧ qb = (pb || e1)) := by
  cases br
  · refine .inr ⟨rfl, (e == 1), (e == 2), rfl, rfl, rfl, ?_, ?_, by rw [HQ]; simp⟩
    · cases h : (e == 2)
      · rw [h] at HM; simp at HM; rw [beq_eq_false_iff_ne]; omega
      · rw [h] at HM; simp at HM; rw [beq_iff_eq]; omega
    · cases h : (e == 2)
      · rw [h] at HM; simp at HM; rw [Bool.not_false, beq_iff_eq]; omega
      · rw [h] at HM; simp at HM; rw [Bool.not_true, beq_eq_false_iff_ne]; omega
  · exact .inl ⟨rfl, by rw [HQ]; simp, by rw [HM]; simp⟩

set_option maxHeartbeats 8000000 in
theorem walk (a : Option Addr) (cap : Nat) (L : List Tnt) (tk tv : ByteArray) (te : Int) (b : Option Addr) (capb : Nat) (B : List Bear) (w : World) (hL : Hid (TntsAt w a L)) (hLb : L.length * 40 ≤ 140737488351232) (_hLn : a = none → cap = 0) (_hLc : L.length ≤ cap) (htk : tk.size ≤ 140737488355328) (htv : tv.size ≤ 140737488355328) (hB : Hid (BearsAt w b B)) (hBb : B.length * 48 ≤ 140737488351232) (_hBn : b = none → capb = 0) (_hBc : B.length ≤ capb) :
    Calls Try.prog 7 #[.slice a L.length cap, .agg #[.string tk, .string tv, .int .i64 te], .slice b B.length capb] w fun e w' => e = .returned (.bool true) ∧ Below w.heap.size w w' := by
  obtain ⟨t, ht1, ht2, ht3⟩ : ∃ t : Tnt, t.1 = tk ∧ t.2.1 = tv ∧ t.2.2 = te := ⟨(tk, tv, te), rfl, rfl, rfl⟩
  subst ht1 ht2 ht3
  have hb0 : Below w.heap.size w (w.alloc (.cells #[.string t.1, .string t.2.1, .int .i64 t.2.2] 32)) := by go_grown
  have hE0 := BoxT.new w 32 t
  have hL0 : Hid (∀ {u : World}, Below (w.alloc (.cells #[.string t.1, .string t.2.1, .int .i64 t.2.2] 32)).heap.size (w.alloc (.cells #[.string t.1, .string t.2.1, .int .i64 t.2.2] 32)) u → TntsAt u a L) := fun h => hL.out.on (on2 hb0 h)
  have hB0 : Hid (∀ {u : World}, Below (w.alloc (.cells #[.string t.1, .string t.2.1, .int .i64 t.2.2] 32)).heap.size (w.alloc (.cells #[.string t.1, .string t.2.1, .int .i64 t.2.2] 32)) u → BearsAt u b B) := fun h => hB.out.on (on2 hb0 h)
  have HSz : Hid (∀ z ∈ L ++ [t], okT z) := by
    intro z hz
    simp only [List.mem_append, List.mem_singleton] at hz
    rcases hz with hz | rfl
    · exact hL.out.2.1 z hz
    · exact ⟨htk, htv⟩
  have hkl : Hid (L.length * 40 ≤ 140737488351232) := hLb
  have k1 := fun u h h' => Kept_calls a cap L b capb B u h h'
  have k2 : ∀ (d : Option Addr) (capd nm : Nat) (u : World), Hid ((L ++ [t]).length = nm) → Hid (TntsAt u d (L ++ [t])) → Hid (BearsAt u b B) → Calls Try.prog 15 #[.slice d nm capd, .slice b B.length capb] u fun e w' => e = .returned (.tuple #[.agg #[.string (keptT (L ++ [t]) B).1.1, .string (keptT (L ++ [t]) B).1.2.1, .int .i64 (keptT (L ++ [t]) B).1.2.2], .bool (keptT (L ++ [t]) B).2]) ∧ Below u.heap.size u w' := fun d capd nm u hn h h' => by
    have := Kept_calls d capd (L ++ [t]) b capb B u h h'
    rwa [hn.out] at this
  have k3 := fun u h h' => Shy_calls a cap L b capb B u h h'
  have k4 : ∀ (d : Option Addr) (capd nm : Nat) (u : World), Hid ((L ++ [t]).length = nm) → Hid (TntsAt u d (L ++ [t])) → Hid (BearsAt u b B) → Calls Try.prog 17 #[.slice d nm capd, .slice b B.length capb] u fun e w' => e = .returned (.int .i64 (shyN (L ++ [t]) B : Nat)) ∧ Below u.heap.size u w' := fun d capd nm u hn h h' => by
    have := Shy_calls d capd (L ++ [t]) b capb B u h h'
    rwa [hn.out] at this
  have HQ : Hid ((keptT (L ++ [t]) B).2 = ((keptT L B).2 || ((t.2.2 == 1) && !borneB B t))) := kept_one L t B
  have HM : Hid (shyN (L ++ [t]) B = shyN L B + (if (t.2.2 == 2) && !borneB B t then 1 else 0)) := shy_one L t B
  have hnb : shyN L B ≤ 140737488355328 := by have := shy_le L B; omega
  generalize keptT L B = p at k1 HQ
  generalize keptT (L ++ [t]) B = q at k2 HQ
  generalize shyN L B = n at k3 HM hnb
  generalize shyN (L ++ [t]) B = m at k4 HM
  obtain ⟨⟨p1, p2, p3⟩, pb⟩ := p
  obtain ⟨⟨q1, q2, q3⟩, qb⟩ := q
  simp only at k1 k2 HQ
  have hok : okT t := ⟨htk, htv⟩
  have HCp0 : Hid (∀ u, Below (w.alloc (.cells #[.string t.1, .string t.2.1, .int .i64 t.2.2] 32)).heap.size (w.alloc (.cells #[.string t.1, .string t.2.1, .int .i64 t.2.2] 32)) u → Calls Try.prog 9 #[.slice a L.length cap] u fun e w' => ∃ v, e = .returned v ∧ Own u w' 32 3 v L.length (flatE encT L)) := fun u hu => taints_calls a cap L u (hL0.out hu) (by omega)
  clear hL hB
  go_enter Try.func7, Try.ntmps7
  go_wp2_with fail
  obtain ⟨w0, hw0⟩ : ∃ w0, w0 = (w.alloc (.cells #[.string t.1, .string t.2.1, .int .i64 t.2.2] 32)) := ⟨_, rfl⟩
  obtain ⟨E, hE9⟩ : ∃ E, E = w.heap.size := ⟨_, rfl⟩
  rw [← hw0] at hb0 hL0 hB0 HCp0 hE0 ⊢
  have hL' : Hid (∀ {u : World}, Below w0.heap.size w0 u → TntsAt u a L) := hL0
  have hB' : Hid (∀ {u : World}, Below w0.heap.size w0 u → BearsAt u b B) := hB0
  have HCp : Hid (∀ u, Below w0.heap.size w0 u → Calls Try.prog 9 #[.slice a L.length cap] u fun e w' => ∃ v, e = .returned v ∧ Own u w' 32 3 v L.length (flatE encT L)) := HCp0
  rw [← hE9] at hE0 ⊢
  have hE : Hid (BoxT w0 E t) := hE0
  have HS : Hid (∀ {u : World}, Below w0.heap.size w0 u → TbS w0 E t u) := fun hb => TbS.to hE.out hb
  clear hL0 hB0 HCp0 hE0 hw0 hE9
  refine (works_calls w0).mono ?_
  rintro e w1 ⟨rfl, hb1⟩
  go_wp2_with fail
  refine wp_region_noPanic ?_
  refine wp_region_held_drew (S := TbS w0 E t) (by kernel_rfl) (HS.out hb1.drew) (fun hHeld => ?_)
  refine wpAnyH_take (i := 0) (v := ?va0) rfl (by kernel_rfl) (by kernel_rfl) (by kernel_rfl) (fun _ _ _ h => h) (Or.inl ⟨by rfl, ?hya0⟩) (by assumption) ?resta0
  case hya0 => (intro u hu; obtain ⟨_, _, _, _⟩ := hu; go_simp; try with_reducible rfl)
  try simp only [Act.put, List.setIfInBounds_toArray, List.set_cons_zero, List.set_cons_succ, List.getElem_toArray, List.getElem_cons_zero, List.getElem_cons_succ]
  refine wpAnyH_take (i := 2) (v := ?va2) rfl (by kernel_rfl) (by kernel_rfl) (by kernel_rfl) (fun _ _ _ h => h) (Or.inl ⟨by rfl, ?hya2⟩) (by assumption) ?resta2
  case hya2 => (intro u hu; obtain ⟨_, _, _, _⟩ := hu; go_simp; try with_reducible rfl)
  try simp only [Act.put, List.setIfInBounds_toArray, List.set_cons_zero, List.set_cons_succ, List.getElem_toArray, List.getElem_cons_zero, List.getElem_cons_succ]
  refine wpAnyH_ready (rs := [1, 3]) (by kernel_rfl) (by simp) ?_
  refine AllReadyH.cons rfl (fun K hK => ?_) (AllReadyH.cons rfl (fun K hK => ?_) AllReadyH.nil)
  · go_simp
    refine (HCp.out _ hHeld.1).mono ?_
    rintro e w6 ⟨v6, rfl, hO6⟩
    have hO6w : Own w0 w6 32 3 v6 L.length (flatE encT L) := ⟨on2 hHeld.1 hO6.1, Go.Joins.ownsRow_le hO6.2 hHeld.1.size⟩
    have hb6 := hO6.1
    clear hO6
    go_wp2_with fail
    refine hK.out _ _ (HS.out hO6w.1) (fun hHeld2 => ?_)
    clear hK K hHeld
    have hHeld := hHeld2
    clear hHeld2
    try simp only [Act.put, List.setIfInBounds_toArray, List.set_cons_zero, List.set_cons_succ, List.getElem_toArray, List.getElem_cons_zero, List.getElem_cons_succ]
    refine wpAnyH_ready (rs := [3]) (by kernel_rfl) (by simp) ?_
    refine AllReadyH.cons rfl (fun K hK => ?_) AllReadyH.nil
    go_simp
    refine hK.out _ _ (HS.out (on2 hHeld.1 ((Below.refl _ _).alloc (Nat.le_refl _) _))) (fun hHeld2 => ?_)
    clear hK K hHeld
    have hHeld := hHeld2
    clear hHeld2
    try simp only [Act.put, List.setIfInBounds_toArray, List.set_cons_zero, List.set_cons_succ, List.getElem_toArray, List.getElem_cons_zero, List.getElem_cons_succ]
    refine wpAnyH_ready (rs := [4]) (by kernel_rfl) (by simp) ?_
    refine AllReadyH.cons rfl (fun K hK => ?_) AllReadyH.nil
    refine append_rowO (ok := okT) encT_len encT_one (w0 := w0) _ _ 22 32 rfl _ 40 infoT Try.underlying22 rfl (by decide) (by decide) v6 L rfl (hO6w.on (by go_grown)) (some ⟨w6.heap.size, 0, none⟩) 1 1 [t] rfl rfl (fun h => by cases h) (tnt_one _ _ t hok) (by have := hkl.out; simp; omega) ?_
    intro v8 w8 hO8 _
    refine hK.out _ _ (HS.out hO8.1) (fun hHeld2 => ?_)
    clear hK K hHeld
    have hHeld := hHeld2
    clear hHeld2
    try simp only [Act.put, List.setIfInBounds_toArray, List.set_cons_zero, List.set_cons_succ, List.getElem_toArray, List.getElem_cons_zero, List.getElem_cons_succ]
    refine wpAnyH_take (i := 5) (v := ?vzp) rfl (by kernel_rfl) (by kernel_rfl) (by kernel_rfl) (fun _ _ _ h => h) (Or.inl ⟨by rfl, ?hyzp⟩) (by assumption) ?restzp
    case hyzp => (intro u hu; obtain ⟨_, _, _, _⟩ := hu; go_simp; try with_reducible rfl)
    try simp only [Act.put, List.setIfInBounds_toArray, List.set_cons_zero, List.set_cons_succ, List.getElem_toArray, List.getElem_cons_zero, List.getElem_cons_succ]
    refine wpAnyH_done (by kernel_rfl) ?_ _
    refine NoPanic.normal ?_
    obtain ⟨d, capd, hv8, hat, _⟩ := row_of_owns (ok := okT) encT_len hO8.2 (by have := hkl.out; simp; omega) HSz.out
    obtain ⟨nm, hnm⟩ : ∃ nm, Hid ((L ++ [t]).length = nm) := ⟨_, rfl⟩
    rw [hnm.out] at hv8
    subst hv8
    have hb8 : Below w0.heap.size w0 w8 := hO8.1
    have hat8 : Hid (TntsAt w8 d (L ++ [t])) := hat
    clear hO8 hHeld hat HCp hb6 hO6w
    go_wp2_with fail
    refine (k1 _ (hL'.out hb8) (hB'.out hb8)).mono ?_
    rintro e w9 ⟨rfl, hb⟩
    have hb9 := on2 hb ((Below.refl _ _).alloc (Nat.le_refl _) (.cells #[.string p1, .string p2, .int .i64 p3] 32))
    clear hb
    go_wp2_with fail
    generalize (w9.alloc (.cells #[.string p1, .string p2, .int .i64 p3] 32)) = w10 at hb9 ⊢
    have hat10 : Hid (TntsAt w10 d (L ++ [t])) := hat8.out.on hb9
    have hb10 := on2 hb8 hb9
    clear hat8 hb8 hb9
    refine (k2 d capd nm _ hnm hat10 (hB'.out hb10)).mono ?_
    rintro e w11 ⟨rfl, hb⟩
    have hb11 := on2 hb ((Below.refl _ _).alloc (Nat.le_refl _) (.cells #[.string q1, .string q2, .int .i64 q3] 32))
    clear hb
    go_wp2_with fail
    generalize (w11.alloc (.cells #[.string q1, .string q2, .int .i64 q3] 32)) = w12 at hb11 ⊢
    have hat12 : Hid (TntsAt w12 d (L ++ [t])) := hat10.out.on hb11
    have hb12 := on2 hb10 hb11
    clear hat10 hb10 hb11 k1 k2
    go_loopw [12, 13] (fun s i wr => ∃ k : Nat, k ≤ B.length ∧ i = .int .i64 k ∧ s = .bool ((B.take k).any fun b => bearsB b t) ∧ Below w12.heap.size w12 wr) (fun _ i _ => B.length - (intOf i).toNat)
    case atStart => exact ⟨0, Nat.zero_le _, rfl, rfl, Below.refl _ _⟩
    case round =>
      obtain ⟨k, hk, rfl, rfl, hbel⟩ := hrel
      by_cases hlt : k < B.length
      · have hbw := on2 hb12 hbel
        obtain ⟨D, off, hbe, hDl, c0, c1, c2, c3, ho⟩ := BearsAt.get (hB'.out hbw) hlt
        subst hbe
        clear ho
        have HB := Bears_calls (B.getD k default).1 (B.getD k default).2.1 (B.getD k default).2.2.1 (B.getD k default).2.2.2 t.1 t.2.1 t.2.2
        change ∀ w, Calls Try.prog 19 _ w fun e w' => e = .returned (.bool (bearsB (B.getD k default) t)) ∧ Below w.heap.size w w' at HB
        obtain ⟨hEl, ⟨e0, e1, e2⟩, _⟩ := hE.out.on hbw
        have HS2 : Hid (∀ {u : World}, Below wr.heap.size wr u → RbS wr D E off k (B.getD k default) t u) := fun hb => RbS.to ⟨Below.refl _ _, c0, c1, c2, c3, e0, e1, e2⟩ hDl hEl hb
        have hst := any_step (p := fun b => bearsB b t) hlt
        have HST : Hid ((B.take (k + 1)).any (fun b => bearsB b t) = ((B.take k).any (fun b => bearsB b t) || bearsB (B.getD k default) t)) := hst
        have hltb : (k : Int) < (B.length : Int) := by omega
        clear c0 c1 c2 c3 e0 e1 e2 hst
        generalize bearsB (B.getD k default) t = r at HB HST
        generalize hac : (B.take k).any (fun b => bearsB b t) = ac at HST ⊢
        clear hac
        generalize B.getD k default = bx at HB HS2
        cases ac
        · go_wp2_with fail
          refine wp_region_noPanic ?_
          refine wp_region_held_drew (S := RbS wr D E off k bx t) (by kernel_rfl) (HS2.out (Below.refl _ _).drew) (fun hHeld => ?_)
          refine wpAnyH_take (i := 0) (v := ?vlp0) rfl (by kernel_rfl) (by kernel_rfl) (by kernel_rfl) (fun _ _ _ h => h) (Or.inl ⟨by rfl, ?hylp0⟩) (by assumption) ?restlp0
          case hylp0 => (intro u hu; obtain ⟨_, _, _, _, _, _, _, _⟩ := hu; go_simp; try with_reducible rfl)
          try simp only [Act.put, List.setIfInBounds_toArray, List.set_cons_zero, List.set_cons_succ, List.getElem_toArray, List.getElem_cons_zero, List.getElem_cons_succ]
          refine wpAnyH_take (i := 1) (v := ?vlp1) rfl (by kernel_rfl) (by kernel_rfl) (by kernel_rfl) (fun _ _ _ h => h) (Or.inl ⟨by rfl, ?hylp1⟩) (by assumption) ?restlp1
          case hylp1 => (intro u hu; obtain ⟨_, _, _, _, _, _, _, _⟩ := hu; go_simp; try with_reducible rfl)
          try simp only [Act.put, List.setIfInBounds_toArray, List.set_cons_zero, List.set_cons_succ, List.getElem_toArray, List.getElem_cons_zero, List.getElem_cons_succ]
          refine wpAnyH_take (i := 2) (v := ?vlp2) rfl (by kernel_rfl) (by kernel_rfl) (by kernel_rfl) (fun _ _ _ h => h) (Or.inl ⟨by rfl, ?hylp2⟩) (by assumption) ?restlp2
          case hylp2 => (intro u hu; obtain ⟨_, _, _, _, _, _, _, _⟩ := hu; go_simp; try with_reducible rfl)
          try simp only [Act.put, List.setIfInBounds_toArray, List.set_cons_zero, List.set_cons_succ, List.getElem_toArray, List.getElem_cons_zero, List.getElem_cons_succ]
          refine wpAnyH_take (i := 3) (v := ?vlp3) rfl (by kernel_rfl) (by kernel_rfl) (by kernel_rfl) (fun _ _ _ h => h) (Or.inl ⟨by rfl, ?hylp3⟩) (by assumption) ?restlp3
          case hylp3 => (intro u hu; obtain ⟨_, _, _, _, _, _, _, _⟩ := hu; go_simp; try with_reducible rfl)
          try simp only [Act.put, List.setIfInBounds_toArray, List.set_cons_zero, List.set_cons_succ, List.getElem_toArray, List.getElem_cons_zero, List.getElem_cons_succ]
          refine wpAnyH_take (i := 4) (v := ?vlp4) rfl (by kernel_rfl) (by kernel_rfl) (by kernel_rfl) (fun _ _ _ h => h) (Or.inl ⟨by rfl, ?hylp4⟩) (by assumption) ?restlp4
          case hylp4 => (intro u hu; obtain ⟨_, _, _, _, _, _, _, _⟩ := hu; go_simp; try with_reducible rfl)
          try simp only [Act.put, List.setIfInBounds_toArray, List.set_cons_zero, List.set_cons_succ, List.getElem_toArray, List.getElem_cons_zero, List.getElem_cons_succ]
          refine wpAnyH_take (i := 5) (v := ?vlp5) rfl (by kernel_rfl) (by kernel_rfl) (by kernel_rfl) (fun _ _ _ h => h) (Or.inl ⟨by rfl, ?hylp5⟩) (by assumption) ?restlp5
          case hylp5 => (intro u hu; obtain ⟨_, _, _, _, _, _, _, _⟩ := hu; go_simp; try with_reducible rfl)
          try simp only [Act.put, List.setIfInBounds_toArray, List.set_cons_zero, List.set_cons_succ, List.getElem_toArray, List.getElem_cons_zero, List.getElem_cons_succ]
          refine wpAnyH_take (i := 6) (v := ?vlp6) rfl (by kernel_rfl) (by kernel_rfl) (by kernel_rfl) (fun _ _ _ h => h) (Or.inl ⟨by rfl, ?hylp6⟩) (by assumption) ?restlp6
          case hylp6 => (intro u hu; obtain ⟨_, _, _, _, _, _, _, _⟩ := hu; go_simp; try with_reducible rfl)
          try simp only [Act.put, List.setIfInBounds_toArray, List.set_cons_zero, List.set_cons_succ, List.getElem_toArray, List.getElem_cons_zero, List.getElem_cons_succ]
          refine wpAnyH_ready (rs := [7]) (by kernel_rfl) (by simp) ?_
          refine AllReadyH.cons rfl (fun K hK => ?_) AllReadyH.nil
          go_simp
          refine (HB _).mono ?_
          rintro e w13 ⟨rfl, hb13⟩
          go_wp2_with fail
          refine hK.out _ _ (HS2.out (on2 hHeld.1 hb13)) (fun hHeld2 => ?_)
          clear hK K hHeld
          have hHeld := hHeld2
          clear hHeld2
          try simp only [Act.put, List.setIfInBounds_toArray, List.set_cons_zero, List.set_cons_succ, List.getElem_toArray, List.getElem_cons_zero, List.getElem_cons_succ]
          refine wpAnyH_take (i := 8) (v := ?vlp8) rfl (by kernel_rfl) (by kernel_rfl) (by kernel_rfl) (fun _ _ _ h => h) (Or.inl ⟨by rfl, ?hylp8⟩) (by assumption) ?restlp8
          case hylp8 => (intro u hu; obtain ⟨_, _, _, _, _, _, _, _⟩ := hu; go_simp; try with_reducible rfl)
          try simp only [Act.put, List.setIfInBounds_toArray, List.set_cons_zero, List.set_cons_succ, List.getElem_toArray, List.getElem_cons_zero, List.getElem_cons_succ]
          refine wpAnyH_take (i := 9) (v := ?vlp9) rfl (by kernel_rfl) (by kernel_rfl) (by kernel_rfl) (fun _ _ _ h => h) (Or.inl ⟨by rfl, ?hylp9⟩) (by assumption) ?restlp9
          case hylp9 => (intro u hu; obtain ⟨_, _, _, _, _, _, _, _⟩ := hu; go_simp; try with_reducible rfl)
          try simp only [Act.put, List.setIfInBounds_toArray, List.set_cons_zero, List.set_cons_succ, List.getElem_toArray, List.getElem_cons_zero, List.getElem_cons_succ]
          refine wpAnyH_done (by kernel_rfl) ?_ _
          refine NoPanic.normal ?_
          go_wp2_with fail
          go_roundw
          case rel => exact ⟨k + 1, by omega, by go_num, by rw [HST.out]; rfl, on2 hbel hHeld.1⟩
          case measure => simp [intOf]; omega
        · go_wp2_with fail
          refine wp_region_noPanic ?_
          refine wp_region_held_drew (S := RbS wr D E off k bx t) (by kernel_rfl) (HS2.out (Below.refl _ _).drew) (fun hHeld => ?_)
          refine wpAnyH_take (i := 0) (v := ?vmp0) rfl (by kernel_rfl) (by kernel_rfl) (by kernel_rfl) (fun _ _ _ h => h) (Or.inl ⟨by rfl, ?hymp0⟩) (by assumption) ?restmp0
          case hymp0 => (intro u hu; obtain ⟨_, _, _, _, _, _, _, _⟩ := hu; go_simp; try with_reducible rfl)
          try simp only [Act.put, List.setIfInBounds_toArray, List.set_cons_zero, List.set_cons_succ, List.getElem_toArray, List.getElem_cons_zero, List.getElem_cons_succ]
          refine wpAnyH_take (i := 1) (v := ?vmp1) rfl (by kernel_rfl) (by kernel_rfl) (by kernel_rfl) (fun _ _ _ h => h) (Or.inl ⟨by rfl, ?hymp1⟩) (by assumption) ?restmp1
          case hymp1 => (intro u hu; obtain ⟨_, _, _, _, _, _, _, _⟩ := hu; go_simp; try with_reducible rfl)
          try simp only [Act.put, List.setIfInBounds_toArray, List.set_cons_zero, List.set_cons_succ, List.getElem_toArray, List.getElem_cons_zero, List.getElem_cons_succ]
          refine wpAnyH_take (i := 2) (v := undef) rfl (by kernel_rfl) (by kernel_rfl) (by kernel_rfl) (fun _ _ _ h => h) (Or.inr ⟨by rfl, rfl⟩) (by assumption) ?_
          try simp only [Act.put, List.setIfInBounds_toArray, List.set_cons_zero, List.set_cons_succ, List.getElem_toArray, List.getElem_cons_zero, List.getElem_cons_succ]
          refine wpAnyH_take (i := 3) (v := undef) rfl (by kernel_rfl) (by kernel_rfl) (by kernel_rfl) (fun _ _ _ h => h) (Or.inr ⟨by rfl, rfl⟩) (by assumption) ?_
          try simp only [Act.put, List.setIfInBounds_toArray, List.set_cons_zero, List.set_cons_succ, List.getElem_toArray, List.getElem_cons_zero, List.getElem_cons_succ]
          refine wpAnyH_take (i := 4) (v := undef) rfl (by kernel_rfl) (by kernel_rfl) (by kernel_rfl) (fun _ _ _ h => h) (Or.inr ⟨by rfl, rfl⟩) (by assumption) ?_
          try simp only [Act.put, List.setIfInBounds_toArray, List.set_cons_zero, List.set_cons_succ, List.getElem_toArray, List.getElem_cons_zero, List.getElem_cons_succ]
          refine wpAnyH_take (i := 5) (v := undef) rfl (by kernel_rfl) (by kernel_rfl) (by kernel_rfl) (fun _ _ _ h => h) (Or.inr ⟨by rfl, rfl⟩) (by assumption) ?_
          try simp only [Act.put, List.setIfInBounds_toArray, List.set_cons_zero, List.set_cons_succ, List.getElem_toArray, List.getElem_cons_zero, List.getElem_cons_succ]
          refine wpAnyH_take (i := 6) (v := undef) rfl (by kernel_rfl) (by kernel_rfl) (by kernel_rfl) (fun _ _ _ h => h) (Or.inr ⟨by rfl, rfl⟩) (by assumption) ?_
          try simp only [Act.put, List.setIfInBounds_toArray, List.set_cons_zero, List.set_cons_succ, List.getElem_toArray, List.getElem_cons_zero, List.getElem_cons_succ]
          refine wpAnyH_ready (rs := [7]) (by kernel_rfl) (by simp) ?_
          refine AllReadyH.cons rfl (fun K hK => ?_) AllReadyH.nil
          go_simp
          refine hK.out _ _ hHeld (fun hHeld2 => ?_)
          clear hK K hHeld
          have hHeld := hHeld2
          clear hHeld2
          try simp only [Act.put, List.setIfInBounds_toArray, List.set_cons_zero, List.set_cons_succ, List.getElem_toArray, List.getElem_cons_zero, List.getElem_cons_succ]
          refine wpAnyH_take (i := 8) (v := ?vmp8) rfl (by kernel_rfl) (by kernel_rfl) (by kernel_rfl) (fun _ _ _ h => h) (Or.inl ⟨by rfl, ?hymp8⟩) (by assumption) ?restmp8
          case hymp8 => (intro u hu; obtain ⟨_, _, _, _, _, _, _, _⟩ := hu; go_simp; try with_reducible rfl)
          try simp only [Act.put, List.setIfInBounds_toArray, List.set_cons_zero, List.set_cons_succ, List.getElem_toArray, List.getElem_cons_zero, List.getElem_cons_succ]
          refine wpAnyH_take (i := 9) (v := ?vmp9) rfl (by kernel_rfl) (by kernel_rfl) (by kernel_rfl) (fun _ _ _ h => h) (Or.inl ⟨by rfl, ?hymp9⟩) (by assumption) ?restmp9
          case hymp9 => (intro u hu; obtain ⟨_, _, _, _, _, _, _, _⟩ := hu; go_simp; try with_reducible rfl)
          try simp only [Act.put, List.setIfInBounds_toArray, List.set_cons_zero, List.set_cons_succ, List.getElem_toArray, List.getElem_cons_zero, List.getElem_cons_succ]
          refine wpAnyH_done (by kernel_rfl) ?_ _
          refine NoPanic.normal ?_
          go_wp2_with fail
          go_roundw
          case rel => exact ⟨k + 1, by omega, by go_num, by rw [HST.out]; rfl, on2 hbel hHeld.1⟩
          case measure => simp [intOf]; omega
      · have hany : (B.take k).any (fun b => bearsB b t) = borneB B t := by rw [List.take_of_length_le (by omega)]; rfl
        rw [hany]
        have hbw := on2 hb12 hbel
        have hat13 : Hid (TntsAt wr d (L ++ [t])) := hat12.out.on hbel
        obtain ⟨hEl, ⟨e0, e1, e2⟩, _⟩ := hE.out.on hbw
        clear hany hat12
        generalize hbr : borneB B t = br at HQ HM ⊢
        clear hbr
        have hpaths := one_paths t.2.2 pb qb br n m HQ.out HM.out
        clear HQ HM
        go_wp2_with fail
        refine (k3 _ (hL'.out hbw) (hB'.out hbw)).mono ?_
        rintro e w14 ⟨rfl, hb14⟩
        have hat14 : Hid (TntsAt w14 d (L ++ [t])) := hat13.out.on hb14
        have hbw14 := on2 hbw hb14
        clear hat13
        go_wp2_with fail
        refine (k4 d capd nm _ hnm hat14 (hB'.out hbw14)).mono ?_
        rintro e w15 ⟨rfl, hb15⟩
        have hbw15 := on2 hbw14 hb15
        obtain ⟨_, ⟨g0, g1, g2⟩, _⟩ := hE.out.on hbw15
        clear e0 e1 e2 hat14
        rcases hpaths with ⟨rfl, rfl, rfl⟩ | ⟨rfl, x1, x2, h1, h2, h3, h4, h5, rfl⟩
        · have hmm : ((m : Int) == (m : Int)) = true := by simp
          cases qb <;> (
            go_wp2_with fail
            go_ret
            exact ⟨rfl, on2 hb0 hbw15⟩)
        · have hwr := wrap_nat (n := n) hnb
          cases pb <;> cases x1 <;> cases x2 <;> (
            simp only [Bool.not_true, Bool.not_false] at h3 h5
            go_wp2_with fail
            go_ret
            exact ⟨rfl, on2 hb0 hbw15⟩)
  · go_simp
    refine hK.out _ _ (HS.out (on2 hHeld.1 ((Below.refl _ _).alloc (Nat.le_refl _) _))) (fun hHeld2 => ?_)
    clear hK K hHeld
    have hHeld := hHeld2
    clear hHeld2
    try simp only [Act.put, List.setIfInBounds_toArray, List.set_cons_zero, List.set_cons_succ, List.getElem_toArray, List.getElem_cons_zero, List.getElem_cons_succ]
    refine wpAnyH_ready (rs := [1]) (by kernel_rfl) (by simp) ?_
    refine AllReadyH.cons rfl (fun K hK => ?_) AllReadyH.nil
    go_simp
    refine (HCp.out _ hHeld.1).mono ?_
    rintro e w6 ⟨v6, rfl, hO6⟩
    have hO6w : Own w0 w6 32 3 v6 L.length (flatE encT L) := ⟨on2 hHeld.1 hO6.1, Go.Joins.ownsRow_le hO6.2 hHeld.1.size⟩
    have hb6 := hO6.1
    clear hO6
    go_wp2_with fail
    refine hK.out _ _ (HS.out hO6w.1) (fun hHeld2 => ?_)
    clear hK K hHeld
    have hHeld := hHeld2
    clear hHeld2
    try simp only [Act.put, List.setIfInBounds_toArray, List.set_cons_zero, List.set_cons_succ, List.getElem_toArray, List.getElem_cons_zero, List.getElem_cons_succ]
    refine wpAnyH_ready (rs := [4]) (by kernel_rfl) (by simp) ?_
    refine AllReadyH.cons rfl (fun K hK => ?_) AllReadyH.nil
    refine append_rowO (ok := okT) encT_len encT_one (w0 := w0) _ _ 22 32 rfl _ 40 infoT Try.underlying22 rfl (by decide) (by decide) v6 L rfl (hO6w) (some ⟨w1.heap.size, 0, none⟩) 1 1 [t] rfl rfl (fun h => by cases h) ((tnt_one w1.drew 32 t hok).on hb6) (by have := hkl.out; simp; omega) ?_
    intro v8 w8 hO8 _
    refine hK.out _ _ (HS.out hO8.1) (fun hHeld2 => ?_)
    clear hK K hHeld
    have hHeld := hHeld2
    clear hHeld2
    try simp only [Act.put, List.setIfInBounds_toArray, List.set_cons_zero, List.set_cons_succ, List.getElem_toArray, List.getElem_cons_zero, List.getElem_cons_succ]
    refine wpAnyH_take (i := 5) (v := ?vzq) rfl (by kernel_rfl) (by kernel_rfl) (by kernel_rfl) (fun _ _ _ h => h) (Or.inl ⟨by rfl, ?hyzq⟩) (by assumption) ?restzq
    case hyzq => (intro u hu; obtain ⟨_, _, _, _⟩ := hu; go_simp; try with_reducible rfl)
    try simp only [Act.put, List.setIfInBounds_toArray, List.set_cons_zero, List.set_cons_succ, List.getElem_toArray, List.getElem_cons_zero, List.getElem_cons_succ]
    refine wpAnyH_done (by kernel_rfl) ?_ _
    refine NoPanic.normal ?_
    obtain ⟨d, capd, hv8, hat, _⟩ := row_of_owns (ok := okT) encT_len hO8.2 (by have := hkl.out; simp; omega) HSz.out
    obtain ⟨nm, hnm⟩ : ∃ nm, Hid ((L ++ [t]).length = nm) := ⟨_, rfl⟩
    rw [hnm.out] at hv8
    subst hv8
    have hb8 : Below w0.heap.size w0 w8 := hO8.1
    have hat8 : Hid (TntsAt w8 d (L ++ [t])) := hat
    clear hO8 hHeld hat HCp hb6 hO6w
    go_wp2_with fail
    refine (k1 _ (hL'.out hb8) (hB'.out hb8)).mono ?_
    rintro e w9 ⟨rfl, hb⟩
    have hb9 := on2 hb ((Below.refl _ _).alloc (Nat.le_refl _) (.cells #[.string p1, .string p2, .int .i64 p3] 32))
    clear hb
    go_wp2_with fail
    generalize (w9.alloc (.cells #[.string p1, .string p2, .int .i64 p3] 32)) = w10 at hb9 ⊢
    have hat10 : Hid (TntsAt w10 d (L ++ [t])) := hat8.out.on hb9
    have hb10 := on2 hb8 hb9
    clear hat8 hb8 hb9
    refine (k2 d capd nm _ hnm hat10 (hB'.out hb10)).mono ?_
    rintro e w11 ⟨rfl, hb⟩
    have hb11 := on2 hb ((Below.refl _ _).alloc (Nat.le_refl _) (.cells #[.string q1, .string q2, .int .i64 q3] 32))
    clear hb
    go_wp2_with fail
    generalize (w11.alloc (.cells #[.string q1, .string q2, .int .i64 q3] 32)) = w12 at hb11 ⊢
    have hat12 : Hid (TntsAt w12 d (L ++ [t])) := hat10.out.on hb11
    have hb12 := on2 hb10 hb11
    clear hat10 hb10 hb11 k1 k2
    go_loopw [12, 13] (fun s i wr => ∃ k : Nat, k ≤ B.length ∧ i = .int .i64 k ∧ s = .bool ((B.take k).any fun b => bearsB b t) ∧ Below w12.heap.size w12 wr) (fun _ i _ => B.length - (intOf i).toNat)
    case atStart => exact ⟨0, Nat.zero_le _, rfl, rfl, Below.refl _ _⟩
    case round =>
      obtain ⟨k, hk, rfl, rfl, hbel⟩ := hrel
      by_cases hlt : k < B.length
      · have hbw := on2 hb12 hbel
        obtain ⟨D, off, hbe, hDl, c0, c1, c2, c3, ho⟩ := BearsAt.get (hB'.out hbw) hlt
        subst hbe
        clear ho
        have HB := Bears_calls (B.getD k default).1 (B.getD k default).2.1 (B.getD k default).2.2.1 (B.getD k default).2.2.2 t.1 t.2.1 t.2.2
        change ∀ w, Calls Try.prog 19 _ w fun e w' => e = .returned (.bool (bearsB (B.getD k default) t)) ∧ Below w.heap.size w w' at HB
        obtain ⟨hEl, ⟨e0, e1, e2⟩, _⟩ := hE.out.on hbw
        have HS2 : Hid (∀ {u : World}, Below wr.heap.size wr u → RbS wr D E off k (B.getD k default) t u) := fun hb => RbS.to ⟨Below.refl _ _, c0, c1, c2, c3, e0, e1, e2⟩ hDl hEl hb
        have hst := any_step (p := fun b => bearsB b t) hlt
        have HST : Hid ((B.take (k + 1)).any (fun b => bearsB b t) = ((B.take k).any (fun b => bearsB b t) || bearsB (B.getD k default) t)) := hst
        have hltb : (k : Int) < (B.length : Int) := by omega
        clear c0 c1 c2 c3 e0 e1 e2 hst
        generalize bearsB (B.getD k default) t = r at HB HST
        generalize hac : (B.take k).any (fun b => bearsB b t) = ac at HST ⊢
        clear hac
        generalize B.getD k default = bx at HB HS2
        cases ac
        · go_wp2_with fail
          refine wp_region_noPanic ?_
          refine wp_region_held_drew (S := RbS wr D E off k bx t) (by kernel_rfl) (HS2.out (Below.refl _ _).drew) (fun hHeld => ?_)
          refine wpAnyH_take (i := 0) (v := ?vlq0) rfl (by kernel_rfl) (by kernel_rfl) (by kernel_rfl) (fun _ _ _ h => h) (Or.inl ⟨by rfl, ?hylq0⟩) (by assumption) ?restlq0
          case hylq0 => (intro u hu; obtain ⟨_, _, _, _, _, _, _, _⟩ := hu; go_simp; try with_reducible rfl)
          try simp only [Act.put, List.setIfInBounds_toArray, List.set_cons_zero, List.set_cons_succ, List.getElem_toArray, List.getElem_cons_zero, List.getElem_cons_succ]
          refine wpAnyH_take (i := 1) (v := ?vlq1) rfl (by kernel_rfl) (by kernel_rfl) (by kernel_rfl) (fun _ _ _ h => h) (Or.inl ⟨by rfl, ?hylq1⟩) (by assumption) ?restlq1
          case hylq1 => (intro u hu; obtain ⟨_, _, _, _, _, _, _, _⟩ := hu; go_simp; try with_reducible rfl)
          try simp only [Act.put, List.setIfInBounds_toArray, List.set_cons_zero, List.set_cons_succ, List.getElem_toArray, List.getElem_cons_zero, List.getElem_cons_succ]
          refine wpAnyH_take (i := 2) (v := ?vlq2) rfl (by kernel_rfl) (by kernel_rfl) (by kernel_rfl) (fun _ _ _ h => h) (Or.inl ⟨by rfl, ?hylq2⟩) (by assumption) ?restlq2
          case hylq2 => (intro u hu; obtain ⟨_, _, _, _, _, _, _, _⟩ := hu; go_simp; try with_reducible rfl)
          try simp only [Act.put, List.setIfInBounds_toArray, List.set_cons_zero, List.set_cons_succ, List.getElem_toArray, List.getElem_cons_zero, List.getElem_cons_succ]
          refine wpAnyH_take (i := 3) (v := ?vlq3) rfl (by kernel_rfl) (by kernel_rfl) (by kernel_rfl) (fun _ _ _ h => h) (Or.inl ⟨by rfl, ?hylq3⟩) (by assumption) ?restlq3
          case hylq3 => (intro u hu; obtain ⟨_, _, _, _, _, _, _, _⟩ := hu; go_simp; try with_reducible rfl)
          try simp only [Act.put, List.setIfInBounds_toArray, List.set_cons_zero, List.set_cons_succ, List.getElem_toArray, List.getElem_cons_zero, List.getElem_cons_succ]
          refine wpAnyH_take (i := 4) (v := ?vlq4) rfl (by kernel_rfl) (by kernel_rfl) (by kernel_rfl) (fun _ _ _ h => h) (Or.inl ⟨by rfl, ?hylq4⟩) (by assumption) ?restlq4
          case hylq4 => (intro u hu; obtain ⟨_, _, _, _, _, _, _, _⟩ := hu; go_simp; try with_reducible rfl)
          try simp only [Act.put, List.setIfInBounds_toArray, List.set_cons_zero, List.set_cons_succ, List.getElem_toArray, List.getElem_cons_zero, List.getElem_cons_succ]
          refine wpAnyH_take (i := 5) (v := ?vlq5) rfl (by kernel_rfl) (by kernel_rfl) (by kernel_rfl) (fun _ _ _ h => h) (Or.inl ⟨by rfl, ?hylq5⟩) (by assumption) ?restlq5
          case hylq5 => (intro u hu; obtain ⟨_, _, _, _, _, _, _, _⟩ := hu; go_simp; try with_reducible rfl)
          try simp only [Act.put, List.setIfInBounds_toArray, List.set_cons_zero, List.set_cons_succ, List.getElem_toArray, List.getElem_cons_zero, List.getElem_cons_succ]
          refine wpAnyH_take (i := 6) (v := ?vlq6) rfl (by kernel_rfl) (by kernel_rfl) (by kernel_rfl) (fun _ _ _ h => h) (Or.inl ⟨by rfl, ?hylq6⟩) (by assumption) ?restlq6
          case hylq6 => (intro u hu; obtain ⟨_, _, _, _, _, _, _, _⟩ := hu; go_simp; try with_reducible rfl)
          try simp only [Act.put, List.setIfInBounds_toArray, List.set_cons_zero, List.set_cons_succ, List.getElem_toArray, List.getElem_cons_zero, List.getElem_cons_succ]
          refine wpAnyH_ready (rs := [7]) (by kernel_rfl) (by simp) ?_
          refine AllReadyH.cons rfl (fun K hK => ?_) AllReadyH.nil
          go_simp
          refine (HB _).mono ?_
          rintro e w13 ⟨rfl, hb13⟩
          go_wp2_with fail
          refine hK.out _ _ (HS2.out (on2 hHeld.1 hb13)) (fun hHeld2 => ?_)
          clear hK K hHeld
          have hHeld := hHeld2
          clear hHeld2
          try simp only [Act.put, List.setIfInBounds_toArray, List.set_cons_zero, List.set_cons_succ, List.getElem_toArray, List.getElem_cons_zero, List.getElem_cons_succ]
          refine wpAnyH_take (i := 8) (v := ?vlq8) rfl (by kernel_rfl) (by kernel_rfl) (by kernel_rfl) (fun _ _ _ h => h) (Or.inl ⟨by rfl, ?hylq8⟩) (by assumption) ?restlq8
          case hylq8 => (intro u hu; obtain ⟨_, _, _, _, _, _, _, _⟩ := hu; go_simp; try with_reducible rfl)
          try simp only [Act.put, List.setIfInBounds_toArray, List.set_cons_zero, List.set_cons_succ, List.getElem_toArray, List.getElem_cons_zero, List.getElem_cons_succ]
          refine wpAnyH_take (i := 9) (v := ?vlq9) rfl (by kernel_rfl) (by kernel_rfl) (by kernel_rfl) (fun _ _ _ h => h) (Or.inl ⟨by rfl, ?hylq9⟩) (by assumption) ?restlq9
          case hylq9 => (intro u hu; obtain ⟨_, _, _, _, _, _, _, _⟩ := hu; go_simp; try with_reducible rfl)
          try simp only [Act.put, List.setIfInBounds_toArray, List.set_cons_zero, List.set_cons_succ, List.getElem_toArray, List.getElem_cons_zero, List.getElem_cons_succ]
          refine wpAnyH_done (by kernel_rfl) ?_ _
          refine NoPanic.normal ?_
          go_wp2_with fail
          go_roundw
          case rel => exact ⟨k + 1, by omega, by go_num, by rw [HST.out]; rfl, on2 hbel hHeld.1⟩
          case measure => simp [intOf]; omega
        · go_wp2_with fail
          refine wp_region_noPanic ?_
          refine wp_region_held_drew (S := RbS wr D E off k bx t) (by kernel_rfl) (HS2.out (Below.refl _ _).drew) (fun hHeld => ?_)
          refine wpAnyH_take (i := 0) (v := ?vmq0) rfl (by kernel_rfl) (by kernel_rfl) (by kernel_rfl) (fun _ _ _ h => h) (Or.inl ⟨by rfl, ?hymq0⟩) (by assumption) ?restmq0
          case hymq0 => (intro u hu; obtain ⟨_, _, _, _, _, _, _, _⟩ := hu; go_simp; try with_reducible rfl)
          try simp only [Act.put, List.setIfInBounds_toArray, List.set_cons_zero, List.set_cons_succ, List.getElem_toArray, List.getElem_cons_zero, List.getElem_cons_succ]
          refine wpAnyH_take (i := 1) (v := ?vmq1) rfl (by kernel_rfl) (by kernel_rfl) (by kernel_rfl) (fun _ _ _ h => h) (Or.inl ⟨by rfl, ?hymq1⟩) (by assumption) ?restmq1
          case hymq1 => (intro u hu; obtain ⟨_, _, _, _, _, _, _, _⟩ := hu; go_simp; try with_reducible rfl)
          try simp only [Act.put, List.setIfInBounds_toArray, List.set_cons_zero, List.set_cons_succ, List.getElem_toArray, List.getElem_cons_zero, List.getElem_cons_succ]
          refine wpAnyH_take (i := 2) (v := undef) rfl (by kernel_rfl) (by kernel_rfl) (by kernel_rfl) (fun _ _ _ h => h) (Or.inr ⟨by rfl, rfl⟩) (by assumption) ?_
          try simp only [Act.put, List.setIfInBounds_toArray, List.set_cons_zero, List.set_cons_succ, List.getElem_toArray, List.getElem_cons_zero, List.getElem_cons_succ]
          refine wpAnyH_take (i := 3) (v := undef) rfl (by kernel_rfl) (by kernel_rfl) (by kernel_rfl) (fun _ _ _ h => h) (Or.inr ⟨by rfl, rfl⟩) (by assumption) ?_
          try simp only [Act.put, List.setIfInBounds_toArray, List.set_cons_zero, List.set_cons_succ, List.getElem_toArray, List.getElem_cons_zero, List.getElem_cons_succ]
          refine wpAnyH_take (i := 4) (v := undef) rfl (by kernel_rfl) (by kernel_rfl) (by kernel_rfl) (fun _ _ _ h => h) (Or.inr ⟨by rfl, rfl⟩) (by assumption) ?_
          try simp only [Act.put, List.setIfInBounds_toArray, List.set_cons_zero, List.set_cons_succ, List.getElem_toArray, List.getElem_cons_zero, List.getElem_cons_succ]
          refine wpAnyH_take (i := 5) (v := undef) rfl (by kernel_rfl) (by kernel_rfl) (by kernel_rfl) (fun _ _ _ h => h) (Or.inr ⟨by rfl, rfl⟩) (by assumption) ?_
          try simp only [Act.put, List.setIfInBounds_toArray, List.set_cons_zero, List.set_cons_succ, List.getElem_toArray, List.getElem_cons_zero, List.getElem_cons_succ]
          refine wpAnyH_take (i := 6) (v := undef) rfl (by kernel_rfl) (by kernel_rfl) (by kernel_rfl) (fun _ _ _ h => h) (Or.inr ⟨by rfl, rfl⟩) (by assumption) ?_
          try simp only [Act.put, List.setIfInBounds_toArray, List.set_cons_zero, List.set_cons_succ, List.getElem_toArray, List.getElem_cons_zero, List.getElem_cons_succ]
          refine wpAnyH_ready (rs := [7]) (by kernel_rfl) (by simp) ?_
          refine AllReadyH.cons rfl (fun K hK => ?_) AllReadyH.nil
          go_simp
          refine hK.out _ _ hHeld (fun hHeld2 => ?_)
          clear hK K hHeld
          have hHeld := hHeld2
          clear hHeld2
          try simp only [Act.put, List.setIfInBounds_toArray, List.set_cons_zero, List.set_cons_succ, List.getElem_toArray, List.getElem_cons_zero, List.getElem_cons_succ]
          refine wpAnyH_take (i := 8) (v := ?vmq8) rfl (by kernel_rfl) (by kernel_rfl) (by kernel_rfl) (fun _ _ _ h => h) (Or.inl ⟨by rfl, ?hymq8⟩) (by assumption) ?restmq8
          case hymq8 => (intro u hu; obtain ⟨_, _, _, _, _, _, _, _⟩ := hu; go_simp; try with_reducible rfl)
          try simp only [Act.put, List.setIfInBounds_toArray, List.set_cons_zero, List.set_cons_succ, List.getElem_toArray, List.getElem_cons_zero, List.getElem_cons_succ]
          refine wpAnyH_take (i := 9) (v := ?vmq9) rfl (by kernel_rfl) (by kernel_rfl) (by kernel_rfl) (fun _ _ _ h => h) (Or.inl ⟨by rfl, ?hymq9⟩) (by assumption) ?restmq9
          case hymq9 => (intro u hu; obtain ⟨_, _, _, _, _, _, _, _⟩ := hu; go_simp; try with_reducible rfl)
          try simp only [Act.put, List.setIfInBounds_toArray, List.set_cons_zero, List.set_cons_succ, List.getElem_toArray, List.getElem_cons_zero, List.getElem_cons_succ]
          refine wpAnyH_done (by kernel_rfl) ?_ _
          refine NoPanic.normal ?_
          go_wp2_with fail
          go_roundw
          case rel => exact ⟨k + 1, by omega, by go_num, by rw [HST.out]; rfl, on2 hbel hHeld.1⟩
          case measure => simp [intOf]; omega
      · have hany : (B.take k).any (fun b => bearsB b t) = borneB B t := by rw [List.take_of_length_le (by omega)]; rfl
        rw [hany]
        have hbw := on2 hb12 hbel
        have hat13 : Hid (TntsAt wr d (L ++ [t])) := hat12.out.on hbel
        obtain ⟨hEl, ⟨e0, e1, e2⟩, _⟩ := hE.out.on hbw
        clear hany hat12
        generalize hbr : borneB B t = br at HQ HM ⊢
        clear hbr
        have hpaths := one_paths t.2.2 pb qb br n m HQ.out HM.out
        clear HQ HM
        go_wp2_with fail
        refine (k3 _ (hL'.out hbw) (hB'.out hbw)).mono ?_
        rintro e w14 ⟨rfl, hb14⟩
        have hat14 : Hid (TntsAt w14 d (L ++ [t])) := hat13.out.on hb14
        have hbw14 := on2 hbw hb14
        clear hat13
        go_wp2_with fail
        refine (k4 d capd nm _ hnm hat14 (hB'.out hbw14)).mono ?_
        rintro e w15 ⟨rfl, hb15⟩
        have hbw15 := on2 hbw14 hb15
        obtain ⟨_, ⟨g0, g1, g2⟩, _⟩ := hE.out.on hbw15
        clear e0 e1 e2 hat14
        rcases hpaths with ⟨rfl, rfl, rfl⟩ | ⟨rfl, x1, x2, h1, h2, h3, h4, h5, rfl⟩
        · have hmm : ((m : Int) == (m : Int)) = true := by simp
          cases qb <;> (
            go_wp2_with fail
            go_ret
            exact ⟨rfl, on2 hb0 hbw15⟩)
        · have hwr := wrap_nat (n := n) hnb
          cases pb <;> cases x1 <;> cases x2 <;> (
            simp only [Bool.not_true, Bool.not_false] at h3 h5
            go_wp2_with fail
            go_ret
            exact ⟨rfl, on2 hb0 hbw15⟩)

theorem reads (os : Os) {H : Type} (enc : TypeId × Value → H) : ∃ places, DataW.whole enc Try.prog ((World.holding Try.prog os ⟨#[], #[], []⟩).forCall (fun _ _ => 0) ⟨#[], #[.slice none 0 0, .agg #[.string ByteArray.empty, .string ByteArray.empty, .int .i64 0], .slice none 0 0], []⟩).memory Try.f7.params.toList Rows.taintOneSpec.vars false #[(.slice none 0 0 : Value), (.agg #[.string ByteArray.empty, .string ByteArray.empty, .int .i64 0] : Value), (.slice none 0 0 : Value)].toList 8 = some ([.nil, .agg [.lit (.string []), .lit (.string []), .lit (.int .i64 0)], .nil], [], places) :=
  ⟨[], by kernel_rfl⟩

theorem params_ok : ∀ t ∈ Try.f7.params.toList, Try.prog.readableRec t = true ∧ t < Try.prog.types.size := by
  rw [Try.params7]
  have hall : ([22, 32, 23].all fun u => Try.prog.readableRec u && decide (u < Try.prog.types.size)) = true := by kernel_rfl
  intro t ht
  simpa using List.all_eq_true.1 hall t (by simpa using ht)

theorem contract (H : Type) (enc : TypeId × Value → H) (W : World) (base : Nat) (args : Array Value) (ds gs : List (DataW H)) (before : List MemPlace)
    (hval : ∀ (j : Nat) t v, Try.f7.params[j]? = some t → args[j]? = some v → Value.okWide Try.prog W .any base t v)
    (hW : DataW.Whole enc Try.prog Try.f7.params.toList Rows.taintOneSpec.vars false W args.toList ds gs before) (hsz : (DataW.weightsEach Try.prog (Try.f7.params.toList ++ Rows.taintOneSpec.plain.varTypes Try.prog) (ds ++ gs)).all (· ≤ reachBytes) = true) :
    Calls Try.prog 7 args W fun e W' => ∃ v, e = .returned v ∧ Rows.taintOneSpec.post enc Try.prog Try.f7 false true false false W args v W' := by
  have hW' := hW
  obtain ⟨p, q, hA0, hV, rfl, hfz, hnd⟩ := hW
  have hA : DataW.TrodAll enc Try.prog W 0 (fun _ => true) true Try.f7.params.toList args.toList ds p := hA0
  rw [Try.params7] at hA hval
  obtain ⟨v0, vs0, d0, ds0, p0, q0, hargs, rfl, rfl, h0, r0⟩ := trodAll_cons hA
  obtain ⟨v1, vs1, d1, ds1, p1, q1, rfl, rfl, rfl, h1, r1⟩ := trodAll_cons r0
  obtain ⟨v2, vs2, d2, ds2, p2, q2, rfl, rfl, rfl, h2, r2⟩ := trodAll_cons r1
  obtain ⟨rfl, rfl, rfl⟩ := trodAll_nil r2
  obtain rfl : args = #[v0, v1, v2] := by cases args; simp_all
  obtain ⟨rfl, rfl⟩ := trodVars_none hV
  have l0 := light_arg hsz (j := 0) (t := 22) (by rw [Try.params7]; rfl) rfl
  obtain ⟨x0, y0, z0, e0⟩ := okWide_slice Try.underlying22 (hval 0 22 v0 rfl rfl)
  subst e0
  obtain ⟨fu0, hf0⟩ := h0
  obtain ⟨a0, L0, c0, e0, at0, b0, g0, o0⟩ := open_tnts (v := .slice x0 y0 z0) hf0 l0
  obtain ⟨rfl, rfl, rfl⟩ : x0 = a0 ∧ y0 = L0.length ∧ z0 = c0 := by simpa using e0
  have l1 := light_arg hsz (j := 1) (t := 32) (by rw [Try.params7]; rfl) rfl
  obtain ⟨u1, m1, c1, y1, y11, y12, k1, rfl, rfl, rfl, hy1, hz1, ht1⟩ := Go.Joins.open_agg3 Try.underlying32 (by kernel_rfl) (by kernel_rfl) (hval 1 32 v1 rfl rfl) h1
  obtain ⟨s1, rfl, w1⟩ := open_str hy1 (light_struct Try.underlying32 l1 (j := 0) rfl rfl)
  obtain ⟨t1, rfl, j1⟩ := open_str hz1 (light_struct Try.underlying32 l1 (j := 1) rfl rfl)
  obtain ⟨n1, en1, _, _⟩ := DataW.trod_int Try.underlying3 ht1
  obtain rfl : c1 = .int .i64 n1 := by simpa using en1
  have l2 := light_arg hsz (j := 2) (t := 23) (by rw [Try.params7]; rfl) rfl
  obtain ⟨x2, y2, z2, e2⟩ := okWide_slice Try.underlying23 (hval 2 23 v2 rfl rfl)
  subst e2
  obtain ⟨fu2, hf2⟩ := h2
  obtain ⟨a2, L2, c2, e2, at2, b2, g2, o2⟩ := open_bears (v := .slice x2 y2 z2) hf2 l2
  obtain ⟨rfl, rfl, rfl⟩ : x2 = a2 ∧ y2 = L2.length ∧ z2 = c2 := by simpa using e2
  refine (walk x0 z0 L0 s1 t1 n1 x2 z2 L2 W at0 b0 g0 o0 w1 j1 at2 b2 g2 o2).mono fun e W' ⟨he, hb⟩ => ?_
  subst he
  exact ⟨_, rfl, law_post laidOut params_ok rfl (tb := 4) (by kernel_rfl) Try.underlying4 rfl hW' hb⟩

set_option maxRecDepth 100000 in
theorem lifted (os : Os) (started : os.Started) (H : Type) (enc : TypeId × Value → H) (F : Stop.Interp) :
    ReturnsInHanded {} Try.checked os 7 .any ((OpenSpec.ofChange Rows.taintOneSpec).preRow enc Try.prog Try.f7 Rows.taintOneRow.domain false Rows.taintOneRow.laid) (((OpenSpec.ofChange Rows.taintOneSpec).at F).post enc Try.prog Try.f7 false true false false) := by
  obtain ⟨places, hx⟩ := reads os enc
  refine returnsInHanded_of_row (C := Try.checked) (s := (OpenSpec.ofChange Rows.taintOneSpec)) own started (by kernel_rfl) Try.func7
    (witness_row_at (enc := enc) (C := Try.checked) false (World.holding Try.prog os ⟨#[], #[], []⟩) #[.slice none 0 0, .agg #[.string ByteArray.empty, .string ByteArray.empty, .int .i64 0], .slice none 0 0] rfl (by kernel_rfl) (by kernel_rfl) (by kernel_rfl)
      (OpenSpec.preRow_of_cond 8 hx (by kernel_rfl) (fun k hk => by cases hk) (by kernel_rfl) ⟨[], rfl, List.Pairwise.nil, fun _ _ h => by cases h⟩)) ?_
  intro W base args ds gs before hval hW _ _ hsz _ _ _
  exact contract H enc W base args ds gs before hval hW hsz

theorem said : Rows.TaintOneSaid :=
  OpenClaim.holds_of_cond 7 Try.f7 rfl rfl rfl rfl rfl rfl rfl ⟨rfl, rfl, rfl, rfl, rfl⟩ rfl rfl rfl rfl rfl (by kernel_rfl) Try.func7 (by kernel_rfl)
    (of_decide_eq_true (by kernel_rfl)) (by unfold Func.isWrapper; first | (rw [if_pos (by decide +kernel)]; kernel_rfl) | (rw [if_neg (by decide +kernel)]; exact ⟨rfl, rfl⟩))
    (fun os started H enc _ F => by rw [OpenClaim.pre_eq_preRow]; exact lifted os started H enc F)
end Go.Proofs.Ytgffnkfiecieeaa.taintOne
namespace Go.Proofs.Ytgffnkfiecieeaa
theorem taintOne_holds : Rows.TaintOneSaid := taintOne.said
end Go.Proofs.Ytgffnkfiecieeaa
