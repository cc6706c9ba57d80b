/- kept.put at Class, and its like. No condition beyond what each says. -/
import Derived.Great.BuildSlice
import Derived.Test.YtfbnnfpnjjjfcaaGreatS35
import Derived.Test.YtfbnnfpnjjjfcaaGreatS36
namespace Go.Proofs.YtfbnnfpnjjjfcaaGreat
set_option maxHeartbeats 16000000
set_option maxRecDepth 100000
open Tryz Go.RowKit List
set_option linter.unusedSimpArgs false
def FindIsClass (L : List ClassD) (s : ByteArray) (r : Int) : Prop := (∃ i : Nat, i < L.length ∧ sEq (L.getD i default).1 s = true ∧ (∀ j, j < i → sEq (L.getD j default).1 s = false) ∧ r = i) ∨ ((∀ j, j < L.length → sEq (L.getD j default).1 s = false) ∧ r = -1)
theorem findrClass (a : Option Addr) (n cap : Nat) (A : Where) (L : List ClassD) (s : ByteArray) (w : World) (hL : SlAt RClass 2 24 A w a n cap L) : Calls prog 291 #[.iface 152 (.agg #[]), .slice a n cap, .string s] w fun e w' => ∃ r : Int, e = .returned (.int .i64 r) ∧ FindIsClass L s r ∧ Below w.heap.size w w' :=
 (findClass_calls a n cap A L s w hL).mono fun e w' h => by
  obtain ⟨⟨i, h1, h2, h3, rfl⟩ | ⟨h1, rfl⟩, hb⟩ := h
  ·
   exact ⟨_, rfl, .inl ⟨i, h1, h2, h3, rfl⟩, hb⟩
  ·
   exact ⟨_, rfl, .inr ⟨h1, rfl⟩, hb⟩
def PlaceIsClass (L : List ClassD) (s : ByteArray) (i : Nat) : Prop := i ≤ L.length ∧ L.findIdx (fun x => sGt x.1 s) = i
theorem placerClass (a : Option Addr) (n cap : Nat) (A : Where) (L : List ClassD) (s : ByteArray) (w : World) (hL : SlAt RClass 2 24 A w a n cap L) : Calls prog 293 #[.iface 152 (.agg #[]), .slice a n cap, .string s] w fun e w' => ∃ i : Nat, e = .returned (.int .i64 i) ∧ PlaceIsClass L s i ∧ Below w.heap.size w w' :=
 (placeClass_calls a n cap A L s w hL).mono fun e w' h => by
  obtain ⟨⟨i, h1, h2, h3, rfl⟩, hb⟩ := h
  refine ⟨i, rfl, ⟨h1, ?_⟩, hb⟩
  rcases Nat.lt_or_ge i L.length with h4 | h4
  ·
   exact findIdx_is (p := fun x : ClassD => sGt x.1 s) h4 (h3 h4) h2
  ·
   obtain rfl : i = L.length := by omega
   exact findIdx_none (p := fun x : ClassD => sGt x.1 s) h2
theorem filClass (c : List Value) (hc : c.length = 2) : Instr.fill (fun i => some (i * 2, 2)) ((Array.range (1 * 2)).map ((Value.agg #[.string ⟨#[]⟩, .bool false]).cells[· % (Value.agg #[.string ⟨#[]⟩, .bool false]).cells.size]!)) [(0, .agg c.toArray)] = some c.toArray :=
 match c, hc with
 | [v0, v1], _ => by kernel_rfl
theorem InsRowClass (w u : World) (A : Where) (v : Value) (L : List ClassD) (i vb : Nat) (c : List Value) (hr : Row RClass 2 A w u 42 v L) (hc : c.length = 2) (h1 : ∀ y ∈ c, y.oneCell' = true) (hvs : u.heap[vb]? = some (.cells c.toArray 42 (0, 0))) (hvo : v.ownBlock ≠ some vb) (hi : i ≤ L.length) (hl : L.length < 256) :
  Calls prog 292 #[v, .int .i64 i, .slice (some ⟨vb, 0, none⟩) 1 1] u fun e u' => ∃ v', e = .returned v' ∧ ∃ xs, Own w u 42 2 v L.length xs ∧ Chunks RClass 2 (fun b => A b ∧ v.ownBlock ≠ some b) u xs L ∧ u'.ownsRow w.heap.size 42 2 v' (L.length + 1) (xs.take (i * 2) ++ c ++ xs.drop (i * 2)) ∧ u.grownBy u' v.ownBlock ∧ (v'.ownBlock = v.ownBlock ∨ v'.ownBlock = some u.heap.size) := by
 obtain ⟨xs, hown, hch⟩ := hr
 refine (InsClass w.heap.size L.length i vb v xs c u hown.2 hown.1.size hvs hvo hc (hch.one RClass.firm) h1 hi (by omega)).mono ?_
 rintro e u' ⟨v', rfl, h2, h3, h5⟩
 exact ⟨v', rfl, xs, hown, hch, h2, h3, h5⟩
theorem Class_kput (h0 h1' h2 h3 h4 h5 : Hd) (p c q : List Value) (x : StateD) (o : ClassD) (A : Where) (w : World) (q0 : SlAt RPod 16 296 A w h0.1 h0.2.1 h0.2.2 x.1) (q1 : SlAt RNode 9 112 A w h1'.1 h1'.2.1 h1'.2.2 x.2.1) (q2 : SlAt RVolume 5 80 A w h2.1 h2.2.1 h2.2.2 x.2.2.1) (q3 : SlAt RClaim 4 56 A w h3.1 h3.2.1 h3.2.2 x.2.2.2.1) (q4 : SlAt RClass 2 24 A w h4.1 h4.2.1 h4.2.2 x.2.2.2.2.1) (q5 : SlAt RBudget 3 48 A w h5.1 h5.2.1 h5.2.2 x.2.2.2.2.2) (ho : RClass A w c o) (hp : p.length = 35) (hall : (p ++ (c ++ q)).length = 40) : Calls prog 287 #[.agg #[.iface 152 (.agg #[])], .agg #[J h0, J h1', J h2, J h3, J h4, J h5], .agg (p ++ (c ++ q)).toArray] w fun e w' => StTup A w (putSClass x o) e w' := by
 have hi : (prog.info? 46).map (·.size) = some (p ++ (c ++ q)).length := by rw [hall]; exact infoObj
 have hc := RClass.firm.len ho
 have h1 := RClass.firm.one ho
 have h1a := all_oneCell_toArray h1
 have hit : (prog.info? 42).map (·.size) = some c.length := by rw [hc]; exact itClass
 have hic : (prog.info? 42).map (·.size) = some c.toArray.size := by simpa using hit
 have HE : Hid (c.toArray.size = 2) := by simp [Hid, hc]
 have HO : Hid (RClass (Lo A w) w c o) := RClass.firm.weak ho (fun b hb h => ⟨h, hb⟩)
 have Q0 : Hid (SlAt RPod 16 296 (Lo A w) w h0.1 h0.2.1 h0.2.2 x.1) := q0.weak RPod.firm (fun b hb h => ⟨h, hb⟩)
 have Q1 : Hid (SlAt RNode 9 112 (Lo A w) w h1'.1 h1'.2.1 h1'.2.2 x.2.1) := q1.weak RNode.firm (fun b hb h => ⟨h, hb⟩)
 have Q2 : Hid (SlAt RVolume 5 80 (Lo A w) w h2.1 h2.2.1 h2.2.2 x.2.2.1) := q2.weak RVolume.firm (fun b hb h => ⟨h, hb⟩)
 have Q3 : Hid (SlAt RClaim 4 56 (Lo A w) w h3.1 h3.2.1 h3.2.2 x.2.2.2.1) := q3.weak RClaim.firm (fun b hb h => ⟨h, hb⟩)
 have Q4 : Hid (SlAt RClass 2 24 (Lo A w) w h4.1 h4.2.1 h4.2.2 x.2.2.2.2.1) := q4.weak RClass.firm (fun b hb h => ⟨h, hb⟩)
 have Q5 : Hid (SlAt RBudget 3 48 (Lo A w) w h5.1 h5.2.1 h5.2.2 x.2.2.2.2.2) := q5.weak RBudget.firm (fun b hb h => ⟨h, hb⟩)
 obtain ⟨U0, hU0⟩ : ∃ U0, U0 = ((((w.alloc (.cells #[.iface 152 (.agg #[])] 156)).alloc (.cells #[J h0, J h1', J h2, J h3, J h4, J h5] 61)).alloc (.cells (p ++ (c ++ q)).toArray 46)).alloc (.cells #[Z, Z, Z, Z, Z, Z] 61)) := ⟨_, rfl⟩
 have HH0 : Hid (Held w [(w.heap.size + 1 + 1, p ++ (c ++ q)), (w.heap.size + 1, [J h0, J h1', J h2, J h3, J h4, J h5]), (w.heap.size, [.iface 152 (.agg #[])])] [(w.heap.size + 1 + 1 + 1, 6)] U0) := by rw [Hid, hU0]; exact ((((Held.start w).push rfl [.iface 152 (.agg #[])] 156).push (by simp) [J h0, J h1', J h2, J h3, J h4, J h5] 61).push (by simp) (p ++ (c ++ q)) 46).room (by simp) #[Z, Z, Z, Z, Z, Z] 61
 have HU : Hid (U0.heap.size = w.heap.size + 1 + 1 + 1 + 1) := by rw [Hid, hU0]; simp
 obtain ⟨i0, hi0, hz0, hzs, _⟩ := info_parts infClass
 have HBY : Hid (x.2.2.2.2.1.length * 24 ≤ 140737488351232) := by rw [Hid, q4.1]; exact q4.2.2.2.1
 clear q0 q1 q2 q3 q4 q5 ho
 go_enter func287, ntmps287
 go_wp2_with fail
 rw [← hU0]
 clear hU0
 refine (own_calls h0 h1' h2 h3 h4 h5 (Lo A w) x U0 (Q0.out.kept RPod.firm (Kept.below HH0.out.below)) (Q1.out.kept RNode.firm (Kept.below HH0.out.below)) (Q2.out.kept RVolume.firm (Kept.below HH0.out.below)) (Q3.out.kept RClaim.firm (Kept.below HH0.out.below)) (Q4.out.kept RClass.firm (Kept.below HH0.out.below)) (Q5.out.kept RBudget.firm (Kept.below HH0.out.below))).mono ?_
 rintro e u1 ⟨g0, g1, g2, g3, g4, g5, rfl, hos, hb1⟩
 have HOS1 : Hid (OwnSt (Lo A w) w u1 (J g0) (J g1) (J g2) (J g3) (.slice g4.1 g4.2.1 g4.2.2) (J g5) x) := hos.from HH0.out.below (fun b h => h.1)
 have HLB : Hid (∀ b, OwnB (J g0) (J g1) (J g2) (J g3) (.slice g4.1 g4.2.1 g4.2.2) (J g5) b → w.heap.size + 1 + 1 + 1 < b) := fun b hb => by have h := (hos.lt hb).1; rw [HU.out] at h; omega
 have HF := (HH0.out.on hb1).swap.free
 have HT1 : Hid (u1.there (w.heap.size + 1) 0 6) := HF.there 0 rfl
 obtain ⟨u2, hu2⟩ : ∃ u2, u2 = u1.setCells (w.heap.size + 1) 0 [J g0, J g1, J g2, J g3, .slice g4.1 g4.2.1 g4.2.2, J g5] := ⟨_, rfl⟩
 have HH2 : Hid (Held w [(w.heap.size + 1, [J g0, J g1, J g2, J g3, .slice g4.1 g4.2.1 g4.2.2, J g5]), (w.heap.size + 1 + 1, p ++ (c ++ q)), (w.heap.size, [.iface 152 (.agg #[])])] [(w.heap.size + 1 + 1 + 1, 6)] u2) := by rw [Hid, hu2]; exact HF.store rfl (by simp)
 have HOS2 : Hid (OwnSt (Lo A w) w u2 (J g0) (J g1) (J g2) (J g3) (.slice g4.1 g4.2.1 g4.2.2) (J g5) x) := by
  have hbz := HH2.out.below
  rw [hu2] at hbz
  rw [Hid, hu2]
  exact HOS1.out.kept hbz (kept_setCells (fun h => by rcases h with h | h; exact absurd h.2 (by omega); have := HLB.out _ h; omega))
 have HU2 : Hid (u2 = u1.setCells (w.heap.size + 1) 0 [J g0, J g1, J g2, J g3, .slice g4.1 g4.2.1 g4.2.2, J g5]) := hu2
 clear hu2 HF hos hb1 HOS1 HH0 HU Q0 Q1 Q2 Q3 Q4 Q5
 go_wp2_with (first | (refine wpList_store_mid rfl 61 _ _ rfl (w.heap.size + 1) 0 #[J g0, J g1, J g2, J g3, .slice g4.1 g4.2.1 g4.2.2, J g5] rfl rfl HT1.out infoSta (by simp [Value.oneCell']) ?_; refine wpl_at HU2.out ?_) | fail)
 clear HT1 HU2
 refine region_cut (F := fun a' u' => ∃ D, (Held w [(D, c), (w.heap.size + 1, [J g0, J g1, J g2, J g3, .slice g4.1 g4.2.1 g4.2.2, J g5]), (w.heap.size + 1 + 1, p ++ (c ++ q)), (w.heap.size, [.iface 152 (.agg #[])])] [(w.heap.size + 1 + 1 + 1, 6)] u' ∧ OwnSt (Lo A w) w u' (J g0) (J g1) (J g2) (J g3) (.slice g4.1 g4.2.1 g4.2.2) (J g5) x ∧ (∀ b, OwnB (J g0) (J g1) (J g2) (J g3) (.slice g4.1 g4.2.1 g4.2.2) (J g5) b → w.heap.size + 1 + 1 + 1 < b ∧ b ≠ D) ∧ w.heap.size + 1 + 1 + 1 < D) ∧ a' = ⟨#[.agg #[.iface 152 (.agg #[])], .agg #[J h0, J h1', J h2, J h3, J h4, J h5], .agg (p ++ (c ++ q)).toArray, .pointer (some ⟨w.heap.size, 0, none⟩), .pointer (some ⟨w.heap.size + 1, 0, none⟩), .pointer (some ⟨w.heap.size + 1 + 1, 0, none⟩), .pointer (some ⟨w.heap.size + 1 + 1 + 1, 0, none⟩), .bool false, .int .i64 0, .slice g4.1 g4.2.1 g4.2.2, .pointer (some ⟨D, 0, none⟩), undef, .agg #[J h0, J h1', J h2, J h3, J h4, J h5], .agg #[J g0, J g1, J g2, J g3, .slice g4.1 g4.2.1 g4.2.2, J g5], .pointer (some ⟨w.heap.size, 0, none⟩), .iface 152 (.agg #[]), .agg #[J g0, J g1, J g2, J g3, .slice g4.1 g4.2.1 g4.2.2, J g5], .slice g4.1 g4.2.1 g4.2.2, .pointer (some ⟨w.heap.size, 0, none⟩), .iface 152 (.agg #[]), .agg (p ++ (c ++ q)).toArray, .agg c.toArray, undef, undef, undef, undef, undef, undef, undef, undef, undef, undef, undef, undef, undef, undef, undef, undef, undef, undef, undef, undef, undef, undef, undef, undef, undef, undef, undef, undef, undef, undef, undef, undef, undef, undef, undef, undef, undef], []⟩) ?_ ?_
 ·
  have HOSc : Hid (OwnSt (Lo A w) w u2.drew (J g0) (J g1) (J g2) (J g3) (.slice g4.1 g4.2.1 g4.2.2) (J g5) x) := HOS2.out.on (Below.refl _ _).drew
  clear HOS2
  refine wp_region_held_drew (S := Held w [(w.heap.size + 1, [J g0, J g1, J g2, J g3, .slice g4.1 g4.2.1 g4.2.2, J g5]), (w.heap.size + 1 + 1, p ++ (c ++ q)), (w.heap.size, [.iface 152 (.agg #[])])] [(w.heap.size + 1 + 1 + 1, 6)]) (by kernel_rfl) (HH2.out.drew) (fun hH => ?_)
  generalize u2.drew = v2 at hH HOSc ⊢
  refine tp 0 ?_; try go_frame
  refine' tk 1 ?_ ?_; rotate_left
  ·
   intro u hu; have hc0 := Held.cell hu 2 rfl 0 rfl; clear hu; go_simp; try with_reducible rfl
  try go_frame
  refine tq 2 (.agg ([J g0, J g1, J g2, J g3, .slice g4.1 g4.2.1 g4.2.2, J g5]).toArray) (yieldsIf_load_mid (by rfl) 61 _ rfl (w.heap.size + 1) 0 rfl ([J g0, J g1, J g2, J g3, .slice g4.1 g4.2.1 g4.2.2, J g5]) _ (fun u hu => Held.get hu 0 rfl) underlying61 rfl infoSta) ?_ (hi := rfl)
  try go_frame
  refine tp 4 ?_; try go_frame
  refine' tk 5 ?_ ?_; rotate_left
  ·
   intro u hu; have hc0 := Held.cell hu 2 rfl 0 rfl; clear hu; go_simp; try with_reducible rfl
  try go_frame
  refine tq 6 (.agg (p ++ (c ++ q)).toArray) (yieldsIf_load_mid (by rfl) 46 _ rfl (w.heap.size + 1 + 1) 0 rfl (p ++ (c ++ q)) _ (fun u hu => Held.get hu 1 rfl) underlying46 rfl hi) ?_ (hi := rfl)
  try go_frame
  refine wpAnyH_ready (rs := [3, 8]) (by kernel_rfl) (by simp) ?_
  refine AllReadyH.cons rfl (fun K hK => ?g17x0) (AllReadyH.cons rfl (fun K hK => ?g17x1) (AllReadyH.nil))
  case' g17x0 =>
   refine want_yes (by rfl) (call_enter (f := 276) (args := #[.agg #[], .agg #[J g0, J g1, J g2, J g3, .slice g4.1 g4.2.1 g4.2.2, J g5]]) (by kernel_rfl) (Class_list (J g0) (J g1) (J g2) (J g3) (.slice g4.1 g4.2.1 g4.2.2) (J g5) _) (fun e ub he => ?_))
   obtain ⟨rfl, hb_ub⟩ := he
   have HOSn := OwnSt.on HOSc.out hb_ub
   clear HOSc
   have HOSc : Hid _ := HOSn
   clear HOSn
   refine ⟨_, rfl, hK.out _ _ (hH.on hb_ub) (fun hH => ?_)⟩
   clear hK K
   try simp only [Act.put, setIfInBounds_toArray, set_cons_zero, set_cons_succ, getElem_toArray, getElem_cons_zero, getElem_cons_succ]
   refine wpAnyH_ready (rs := [7, 8]) (by kernel_rfl) (by simp) ?_
   refine AllReadyH.cons rfl (fun K hK => ?g18x0) (AllReadyH.cons rfl (fun K hK => ?g18x1) (AllReadyH.nil))
   case' g18x0 =>
    refine want_yes (by rfl) (call_enter (f := 277) (args := #[.agg #[], .agg (p ++ (c ++ q)).toArray]) (by kernel_rfl) (Class_member p c q hp hc h1 _) (fun e uc he => ?_))
    obtain ⟨rfl, hb_uc⟩ := he
    have HOSn := OwnSt.on HOSc.out hb_uc
    clear HOSc
    have HOSc : Hid _ := HOSn
    clear HOSn
    refine ⟨_, rfl, hK.out _ _ (hH.on hb_uc) (fun hH => ?_)⟩
    clear hK K
    try simp only [Act.put, setIfInBounds_toArray, set_cons_zero, set_cons_succ, getElem_toArray, getElem_cons_zero, getElem_cons_succ]
    first | refine tr 8 (fun K hK => ?_) | refine ts 8 (fun K hK => ?_)
    refine want_yes (by rfl) ?_
    go_simp
    have hba : Below uc.heap.size uc (uc.alloc (.cells #[.string ⟨#[]⟩, .bool false] 42)) := (Below.refl _ _).alloc (Nat.le_refl _) _
    have HDT : Hid (Room uc.heap.size 2 (uc.alloc (.cells #[.string ⟨#[]⟩, .bool false] 42))) := ⟨there_new rfl rfl, by simp⟩
    have HDN : Hid (∀ b, OwnB (J g0) (J g1) (J g2) (J g3) (.slice g4.1 g4.2.1 g4.2.2) (J g5) b → w.heap.size + 1 + 1 + 1 < b ∧ b ≠ uc.heap.size) := fun b hb => ⟨HLB.out b hb, Nat.ne_of_lt (HOSc.out.lt hb).2⟩
    have HDG : Hid (w.heap.size + 1 + 1 + 1 < uc.heap.size) := hH.ltM 0 (b := w.heap.size + 1 + 1 + 1) rfl
    have HOSn := OwnSt.on HOSc.out hba
    clear HOSc
    have HOSc : Hid _ := HOSn
    clear HOSn
    obtain ⟨va, hva⟩ : ∃ va, va = uc.alloc (.cells #[.string ⟨#[]⟩, .bool false] 42) := ⟨_, rfl⟩
    rw [← hva] at HDT HOSc hba
    refine at_world hva ?_
    clear hva
    refine hK.out _ _ (hH.on hba) (fun hH => ?_)
    clear hK K
    try go_frame
    refine tp 9 ?_; try go_frame
    first | refine tr 10 (fun K hK => ?_) | refine ts 10 (fun K hK => ?_)
    refine want_yes (by rfl) (wp_store_mid 42 _ _ rfl (uc.heap.size) 0 c.toArray rfl rfl (by rw [HE.out]; exact HDT.out.1) hic h1a ?_)
    have HHD : Held w [(w.heap.size + 1, [J g0, J g1, J g2, J g3, .slice g4.1 g4.2.1 g4.2.2, J g5]), (w.heap.size + 1 + 1, p ++ (c ++ q)), (w.heap.size, [.iface 152 (.agg #[])])] ((uc.heap.size, 2) :: [(w.heap.size + 1 + 1 + 1, 6)]) va := ⟨hH.1, hH.2.1, fun y hy => by rcases List.mem_cons.1 hy with rfl | hy; exact ⟨Nat.le_trans (by omega) (Nat.le_of_lt HDG.out), HDT.out.2, HDT.out.1⟩; exact hH.2.2 y hy⟩
    obtain ⟨uz, huz⟩ : ∃ uz, uz = va.setCells (uc.heap.size) 0 c := ⟨_, rfl⟩
    have hHZ : Held w [(uc.heap.size, c), (w.heap.size + 1, [J g0, J g1, J g2, J g3, .slice g4.1 g4.2.1 g4.2.2, J g5]), (w.heap.size + 1 + 1, p ++ (c ++ q)), (w.heap.size, [.iface 152 (.agg #[])])] [(w.heap.size + 1 + 1 + 1, 6)] uz := by rw [huz]; exact HHD.store hc (fun z hz => by have := HDG.out; simp only [List.mem_cons, List.not_mem_nil, or_false] at hz; rcases hz with rfl | rfl | rfl <;> simp <;> omega)
    have hOZ : OwnSt (Lo A w) w uz (J g0) (J g1) (J g2) (J g3) (.slice g4.1 g4.2.1 g4.2.2) (J g5) x := by (have hbz := hHZ.below; rw [huz] at hbz ⊢; exact HOSc.out.kept hbz (kept_setCells (fun h => by rcases h with h | h; exact absurd h.2 (by have := HDG.out; omega); exact (HDN.out _ h).2 rfl)))
    have HEND : Hid (Held w [(uc.heap.size, c), (w.heap.size + 1, [J g0, J g1, J g2, J g3, .slice g4.1 g4.2.1 g4.2.2, J g5]), (w.heap.size + 1 + 1, p ++ (c ++ q)), (w.heap.size, [.iface 152 (.agg #[])])] [(w.heap.size + 1 + 1 + 1, 6)] uz ∧ OwnSt (Lo A w) w uz (J g0) (J g1) (J g2) (J g3) (.slice g4.1 g4.2.1 g4.2.2) (J g5) x ∧ (∀ b, OwnB (J g0) (J g1) (J g2) (J g3) (.slice g4.1 g4.2.1 g4.2.2) (J g5) b → w.heap.size + 1 + 1 + 1 < b ∧ b ≠ uc.heap.size) ∧ w.heap.size + 1 + 1 + 1 < uc.heap.size) := ⟨hHZ, hOZ, HDN.out, HDG.out⟩
    refine at_world huz ?_
    refine hK.out _ _ (hHZ.less (fun z hz => List.mem_cons_of_mem _ hz) (fun _ h => h)) (fun hH => ?_)
    clear hK K
    try go_frame
   case' g18x1 =>
    refine want_yes (by rfl) ?_
    go_simp
    have hba : Below ub.heap.size ub (ub.alloc (.cells #[.string ⟨#[]⟩, .bool false] 42)) := (Below.refl _ _).alloc (Nat.le_refl _) _
    have HDT : Hid (Room ub.heap.size 2 (ub.alloc (.cells #[.string ⟨#[]⟩, .bool false] 42))) := ⟨there_new rfl rfl, by simp⟩
    have HDN : Hid (∀ b, OwnB (J g0) (J g1) (J g2) (J g3) (.slice g4.1 g4.2.1 g4.2.2) (J g5) b → w.heap.size + 1 + 1 + 1 < b ∧ b ≠ ub.heap.size) := fun b hb => ⟨HLB.out b hb, Nat.ne_of_lt (HOSc.out.lt hb).2⟩
    have HDG : Hid (w.heap.size + 1 + 1 + 1 < ub.heap.size) := hH.ltM 0 (b := w.heap.size + 1 + 1 + 1) rfl
    have HOSn := OwnSt.on HOSc.out hba
    clear HOSc
    have HOSc : Hid _ := HOSn
    clear HOSn
    obtain ⟨va, hva⟩ : ∃ va, va = ub.alloc (.cells #[.string ⟨#[]⟩, .bool false] 42) := ⟨_, rfl⟩
    rw [← hva] at HDT HOSc hba
    refine at_world hva ?_
    clear hva
    refine hK.out _ _ (hH.on hba) (fun hH => ?_)
    clear hK K
    try simp only [Act.put, setIfInBounds_toArray, set_cons_zero, set_cons_succ, getElem_toArray, getElem_cons_zero, getElem_cons_succ]
    refine tr 7 (fun K hK => ?_)
    refine want_yes (by rfl) (call_enter (f := 277) (args := #[.agg #[], .agg (p ++ (c ++ q)).toArray]) (by kernel_rfl) (Class_member p c q hp hc h1 _) (fun e uc he => ?_))
    obtain ⟨rfl, hb_uc⟩ := he
    have HOSn := OwnSt.on HOSc.out hb_uc
    clear HOSc
    have HOSc : Hid _ := HOSn
    clear HOSn
    have HDn := Room.on HDT.out hb_uc
    clear HDT
    have HDT : Hid _ := HDn
    clear HDn
    refine ⟨_, rfl, hK.out _ _ (hH.on hb_uc) (fun hH => ?_)⟩
    clear hK K
    try go_frame
    refine tp 9 ?_; try go_frame
    first | refine tr 10 (fun K hK => ?_) | refine ts 10 (fun K hK => ?_)
    refine want_yes (by rfl) (wp_store_mid 42 _ _ rfl (ub.heap.size) 0 c.toArray rfl rfl (by rw [HE.out]; exact HDT.out.1) hic h1a ?_)
    have HHD : Held w [(w.heap.size + 1, [J g0, J g1, J g2, J g3, .slice g4.1 g4.2.1 g4.2.2, J g5]), (w.heap.size + 1 + 1, p ++ (c ++ q)), (w.heap.size, [.iface 152 (.agg #[])])] ((ub.heap.size, 2) :: [(w.heap.size + 1 + 1 + 1, 6)]) uc := ⟨hH.1, hH.2.1, fun y hy => by rcases List.mem_cons.1 hy with rfl | hy; exact ⟨Nat.le_trans (by omega) (Nat.le_of_lt HDG.out), HDT.out.2, HDT.out.1⟩; exact hH.2.2 y hy⟩
    obtain ⟨uz, huz⟩ : ∃ uz, uz = uc.setCells (ub.heap.size) 0 c := ⟨_, rfl⟩
    have hHZ : Held w [(ub.heap.size, c), (w.heap.size + 1, [J g0, J g1, J g2, J g3, .slice g4.1 g4.2.1 g4.2.2, J g5]), (w.heap.size + 1 + 1, p ++ (c ++ q)), (w.heap.size, [.iface 152 (.agg #[])])] [(w.heap.size + 1 + 1 + 1, 6)] uz := by rw [huz]; exact HHD.store hc (fun z hz => by have := HDG.out; simp only [List.mem_cons, List.not_mem_nil, or_false] at hz; rcases hz with rfl | rfl | rfl <;> simp <;> omega)
    have hOZ : OwnSt (Lo A w) w uz (J g0) (J g1) (J g2) (J g3) (.slice g4.1 g4.2.1 g4.2.2) (J g5) x := by (have hbz := hHZ.below; rw [huz] at hbz ⊢; exact HOSc.out.kept hbz (kept_setCells (fun h => by rcases h with h | h; exact absurd h.2 (by have := HDG.out; omega); exact (HDN.out _ h).2 rfl)))
    have HEND : Hid (Held w [(ub.heap.size, c), (w.heap.size + 1, [J g0, J g1, J g2, J g3, .slice g4.1 g4.2.1 g4.2.2, J g5]), (w.heap.size + 1 + 1, p ++ (c ++ q)), (w.heap.size, [.iface 152 (.agg #[])])] [(w.heap.size + 1 + 1 + 1, 6)] uz ∧ OwnSt (Lo A w) w uz (J g0) (J g1) (J g2) (J g3) (.slice g4.1 g4.2.1 g4.2.2) (J g5) x ∧ (∀ b, OwnB (J g0) (J g1) (J g2) (J g3) (.slice g4.1 g4.2.1 g4.2.2) (J g5) b → w.heap.size + 1 + 1 + 1 < b ∧ b ≠ ub.heap.size) ∧ w.heap.size + 1 + 1 + 1 < ub.heap.size) := ⟨hHZ, hOZ, HDN.out, HDG.out⟩
    refine at_world huz ?_
    refine hK.out _ _ (hHZ.less (fun z hz => List.mem_cons_of_mem _ hz) (fun _ h => h)) (fun hH => ?_)
    clear hK K
    try go_frame
  case' g17x1 =>
   refine want_yes (by rfl) ?_
   go_simp
   have hba : Below v2.heap.size v2 (v2.alloc (.cells #[.string ⟨#[]⟩, .bool false] 42)) := (Below.refl _ _).alloc (Nat.le_refl _) _
   have HDT : Hid (Room v2.heap.size 2 (v2.alloc (.cells #[.string ⟨#[]⟩, .bool false] 42))) := ⟨there_new rfl rfl, by simp⟩
   have HDN : Hid (∀ b, OwnB (J g0) (J g1) (J g2) (J g3) (.slice g4.1 g4.2.1 g4.2.2) (J g5) b → w.heap.size + 1 + 1 + 1 < b ∧ b ≠ v2.heap.size) := fun b hb => ⟨HLB.out b hb, Nat.ne_of_lt (HOSc.out.lt hb).2⟩
   have HDG : Hid (w.heap.size + 1 + 1 + 1 < v2.heap.size) := hH.ltM 0 (b := w.heap.size + 1 + 1 + 1) rfl
   have HOSn := OwnSt.on HOSc.out hba
   clear HOSc
   have HOSc : Hid _ := HOSn
   clear HOSn
   obtain ⟨va, hva⟩ : ∃ va, va = v2.alloc (.cells #[.string ⟨#[]⟩, .bool false] 42) := ⟨_, rfl⟩
   rw [← hva] at HDT HOSc hba
   refine at_world hva ?_
   clear hva
   refine hK.out _ _ (hH.on hba) (fun hH => ?_)
   clear hK K
   try simp only [Act.put, setIfInBounds_toArray, set_cons_zero, set_cons_succ, getElem_toArray, getElem_cons_zero, getElem_cons_succ]
   refine tr 3 (fun K hK => ?_)
   refine want_yes (by rfl) (call_enter (f := 276) (args := #[.agg #[], .agg #[J g0, J g1, J g2, J g3, .slice g4.1 g4.2.1 g4.2.2, J g5]]) (by kernel_rfl) (Class_list (J g0) (J g1) (J g2) (J g3) (.slice g4.1 g4.2.1 g4.2.2) (J g5) _) (fun e ub he => ?_))
   obtain ⟨rfl, hb_ub⟩ := he
   have HOSn := OwnSt.on HOSc.out hb_ub
   clear HOSc
   have HOSc : Hid _ := HOSn
   clear HOSn
   have HDn := Room.on HDT.out hb_ub
   clear HDT
   have HDT : Hid _ := HDn
   clear HDn
   refine ⟨_, rfl, hK.out _ _ (hH.on hb_ub) (fun hH => ?_)⟩
   clear hK K
   try go_frame
   refine tr 7 (fun K hK => ?_)
   refine want_yes (by rfl) (call_enter (f := 277) (args := #[.agg #[], .agg (p ++ (c ++ q)).toArray]) (by kernel_rfl) (Class_member p c q hp hc h1 _) (fun e uc he => ?_))
   obtain ⟨rfl, hb_uc⟩ := he
   have HOSn := OwnSt.on HOSc.out hb_uc
   clear HOSc
   have HOSc : Hid _ := HOSn
   clear HOSn
   have HDn := Room.on HDT.out hb_uc
   clear HDT
   have HDT : Hid _ := HDn
   clear HDn
   refine ⟨_, rfl, hK.out _ _ (hH.on hb_uc) (fun hH => ?_)⟩
   clear hK K
   try go_frame
   refine tp 9 ?_; try go_frame
   first | refine tr 10 (fun K hK => ?_) | refine ts 10 (fun K hK => ?_)
   refine want_yes (by rfl) (wp_store_mid 42 _ _ rfl (v2.heap.size) 0 c.toArray rfl rfl (by rw [HE.out]; exact HDT.out.1) hic h1a ?_)
   have HHD : Held w [(w.heap.size + 1, [J g0, J g1, J g2, J g3, .slice g4.1 g4.2.1 g4.2.2, J g5]), (w.heap.size + 1 + 1, p ++ (c ++ q)), (w.heap.size, [.iface 152 (.agg #[])])] ((v2.heap.size, 2) :: [(w.heap.size + 1 + 1 + 1, 6)]) uc := ⟨hH.1, hH.2.1, fun y hy => by rcases List.mem_cons.1 hy with rfl | hy; exact ⟨Nat.le_trans (by omega) (Nat.le_of_lt HDG.out), HDT.out.2, HDT.out.1⟩; exact hH.2.2 y hy⟩
   obtain ⟨uz, huz⟩ : ∃ uz, uz = uc.setCells (v2.heap.size) 0 c := ⟨_, rfl⟩
   have hHZ : Held w [(v2.heap.size, c), (w.heap.size + 1, [J g0, J g1, J g2, J g3, .slice g4.1 g4.2.1 g4.2.2, J g5]), (w.heap.size + 1 + 1, p ++ (c ++ q)), (w.heap.size, [.iface 152 (.agg #[])])] [(w.heap.size + 1 + 1 + 1, 6)] uz := by rw [huz]; exact HHD.store hc (fun z hz => by have := HDG.out; simp only [List.mem_cons, List.not_mem_nil, or_false] at hz; rcases hz with rfl | rfl | rfl <;> simp <;> omega)
   have hOZ : OwnSt (Lo A w) w uz (J g0) (J g1) (J g2) (J g3) (.slice g4.1 g4.2.1 g4.2.2) (J g5) x := by (have hbz := hHZ.below; rw [huz] at hbz ⊢; exact HOSc.out.kept hbz (kept_setCells (fun h => by rcases h with h | h; exact absurd h.2 (by have := HDG.out; omega); exact (HDN.out _ h).2 rfl)))
   have HEND : Hid (Held w [(v2.heap.size, c), (w.heap.size + 1, [J g0, J g1, J g2, J g3, .slice g4.1 g4.2.1 g4.2.2, J g5]), (w.heap.size + 1 + 1, p ++ (c ++ q)), (w.heap.size, [.iface 152 (.agg #[])])] [(w.heap.size + 1 + 1 + 1, 6)] uz ∧ OwnSt (Lo A w) w uz (J g0) (J g1) (J g2) (J g3) (.slice g4.1 g4.2.1 g4.2.2) (J g5) x ∧ (∀ b, OwnB (J g0) (J g1) (J g2) (J g3) (.slice g4.1 g4.2.1 g4.2.2) (J g5) b → w.heap.size + 1 + 1 + 1 < b ∧ b ≠ v2.heap.size) ∧ w.heap.size + 1 + 1 + 1 < v2.heap.size) := ⟨hHZ, hOZ, HDN.out, HDG.out⟩
   refine at_world huz ?_
   refine hK.out _ _ (hHZ.less (fun z hz => List.mem_cons_of_mem _ hz) (fun _ h => h)) (fun hH => ?_)
   clear hK K
   try go_frame
  all_goals
   refine tz ?_
   exact ⟨rfl, _, HEND.out, rfl⟩
 clear HH2 HOS2
 rintro a' u3 ⟨D, ⟨hH3, hO3, hB3, hD3⟩, rfl⟩
 have HD3 : Hid (w.heap.size + 1 + 1 + 1 < D) := hD3
 clear hD3
 have HH3 : Hid (Held w [(D, c), (w.heap.size + 1, [J g0, J g1, J g2, J g3, .slice g4.1 g4.2.1 g4.2.2, J g5]), (w.heap.size + 1 + 1, p ++ (c ++ q)), (w.heap.size, [.iface 152 (.agg #[])])] [(w.heap.size + 1 + 1 + 1, 6)] u3) := hH3
 have HO3 : Hid (OwnSt (Lo A w) w u3 (J g0) (J g1) (J g2) (J g3) (.slice g4.1 g4.2.1 g4.2.2) (J g5) x) := hO3
 have HB3 : Hid (∀ b, OwnB (J g0) (J g1) (J g2) (J g3) (.slice g4.1 g4.2.1 g4.2.2) (J g5) b → w.heap.size + 1 + 1 + 1 < b ∧ b ≠ D) := hB3
 clear hH3 hO3 hB3
 go_wp2_with fail
 refine t0 (Held w [(D, c), (w.heap.size + 1, [J g0, J g1, J g2, J g3, .slice g4.1 g4.2.1 g4.2.2, J g5]), (w.heap.size + 1 + 1, p ++ (c ++ q)), (w.heap.size, [.iface 152 (.agg #[])])] [(w.heap.size + 1 + 1 + 1, 6)]) (HH3.out.drew) (fun hH => ?_)
 refine tp 0 ?_; try go_frame
 refine' tk 1 ?_ ?_; rotate_left
 ·
  intro u hu; have hc0 := Held.cell hu 3 rfl 0 rfl; clear hu; go_simp; try with_reducible rfl
 try go_frame
 refine tp 2 ?_; try go_frame
 refine tp 3 ?_; try go_frame
 refine' tk 4 ?_ ?_; rotate_left
 ·
  intro u hu; have hc0 := Held.cell hu 3 rfl 0 rfl; clear hu; go_simp; try with_reducible rfl
 try go_frame
 refine tq 5 (.agg (c).toArray) (yieldsIf_load_mid (by rfl) 42 _ rfl (D) 0 rfl (c) _ (fun u hu => Held.get hu 0 rfl) underlying42 rfl hit) ?_ (hi := rfl)
 try go_frame
 refine tr 6 (fun K hK => ?_)
 refine want_yes (by rfl) (call_enter (f := 278) (args := #[.agg #[], .agg c.toArray]) (by kernel_rfl) (Class_named c _ o _ (RClass.firm.kept HO.out (Kept.below hH.below))) (fun e ud he => ?_))
 obtain ⟨rfl, hbd⟩ := he
 have HOSn : Hid _ := HO3.out.on ((Below.refl _ u3).drew.trans (hbd.mono (Nat.le_refl _)))
 clear HO3
 have HO3 := HOSn
 clear HOSn
 refine ⟨_, rfl, hK.out _ _ (hH.on hbd) (fun hH => ?_)⟩
 clear hK K
 try go_frame
 refine tr 7 (fun K hK => ?_)
 refine want_yes (by rfl) (call_enter (f := 291) (args := #[.iface 152 (.agg #[]), .slice g4.1 g4.2.1 g4.2.2, .string o.1]) (by kernel_rfl) (findrClass _ _ _ _ x.2.2.2.2.1 o.1 _ (HO3.out.r4.slG (bytes := 24) RClass.firm HBY.out)) (fun e ue he => ?_))
 obtain ⟨r, rfl, hfi, hbe⟩ := he
 have HFI : Hid (FindIsClass x.2.2.2.2.1 o.1 r) := hfi
 have HOSn : Hid _ := HO3.out.on hbe
 clear HO3 hfi
 have HO3 := HOSn
 clear HOSn
 refine ⟨_, rfl, hK.out _ _ (hH.on hbe) (fun hH => ?_)⟩
 clear hK K
 try go_frame
 refine tp 8 ?_; try go_frame
 refine tz ?_
 have HHe : Hid (Held w [(D, c), (w.heap.size + 1, [J g0, J g1, J g2, J g3, .slice g4.1 g4.2.1 g4.2.2, J g5]), (w.heap.size + 1 + 1, p ++ (c ++ q)), (w.heap.size, [.iface 152 (.agg #[])])] [(w.heap.size + 1 + 1 + 1, 6)] ue) := hH
 clear hH HH3
 rcases HFI.out with ⟨i, hi', hy, hn, rfl⟩ | ⟨hn, rfl⟩
 ·
  have HP : Hid (putSClass x o = (withLClass x (x.2.2.2.2.1.take i ++ o :: x.2.2.2.2.1.drop (i + 1)), true, 0)) := by
   have hf := findIdx_is (p := fun y : ClassD => sEq y.1 o.1) hi' hy hn
   simp only [Hid, putSClass, putL, hf, hi', if_true]
  clear hy hn HFI
  obtain ⟨xs, ⟨_, _, ⟨e1, h0'⟩ | ⟨gb, cap, cur, e1, _, hg, hcp, _, hsz, _⟩⟩, _⟩ := HO3.out.r4
  ·
   omega
  obtain ⟨ga, gn, gc⟩ := g4
  simp only [Value.slice.injEq] at e1
  obtain ⟨rfl, hgn, rfl⟩ := e1
  have hiz : (i : Int) < (gn : Int) := by rw [hgn]; omega
  have HGN : Hid (gn = x.2.2.2.2.1.length) := hgn
  have HI : Hid (i < x.2.2.2.2.1.length) := hi'
  have hgb := HB3.out gb (by simp [OwnB, Value.ownBlock])
  have HTg : Hid (ue.there gb (i * 2) c.toArray.size) := fun j hj => by
   have hkn : (i + 1) * 2 ≤ x.2.2.2.2.1.length * 2 := Nat.mul_le_mul_right _ hi'
   have hkc : x.2.2.2.2.1.length * 2 ≤ gc * 2 := Nat.mul_le_mul_right _ hcp
   rw [HE.out] at hj
   exact ⟨by rw [row_cell hg, List.getElem?_eq_getElem (by rw [Array.length_toList, hsz]; omega)]; rfl, row_frozen hg⟩
  obtain ⟨u5, hu5⟩ : ∃ u5, u5 = ue.setCells gb (i * 2) c := ⟨_, rfl⟩
  have HH5 : Hid (Held w [(D, c), (w.heap.size + 1, [J g0, J g1, J g2, J g3, .slice (some ⟨gb, 0, none⟩) gn gc, J g5]), (w.heap.size + 1 + 1, p ++ (c ++ q)), (w.heap.size, [.iface 152 (.agg #[])])] [(w.heap.size + 1 + 1 + 1, 6)] u5) := by rw [Hid, hu5]; exact HHe.out.other (by omega) (fun z hz => by simp only [List.mem_cons, List.not_mem_nil, or_false] at hz; rcases hz with rfl | rfl | rfl | rfl <;> simp <;> omega)
  have hns := ns_of HO3.out.ap
  have HO5 : Hid (OwnSt (Lo A w) w u5 (J g0) (J g1) (J g2) (J g3) (.slice (some ⟨gb, 0, none⟩) gn gc) (J g5) (withLClass x (x.2.2.2.2.1.take i ++ o :: x.2.2.2.2.1.drop (i + 1)))) := by
   have hb5 := HH5.out.below
   rw [hu5] at hb5
   rw [Hid, hu5]
   exact ⟨HO3.out.r0.kept RPod.firm hb5 (kept_setCells (fun h => by rcases h with h | h; exact absurd h.2 (by omega); exact hns.2.2.2.1 gb h rfl)), HO3.out.r1.kept RNode.firm hb5 (kept_setCells (fun h => by rcases h with h | h; exact absurd h.2 (by omega); exact hns.2.2.2.2.2.2.2.1 gb h rfl)), HO3.out.r2.kept RVolume.firm hb5 (kept_setCells (fun h => by rcases h with h | h; exact absurd h.2 (by omega); exact hns.2.2.2.2.2.2.2.2.2.2.1 gb h rfl)), HO3.out.r3.kept RClaim.firm hb5 (kept_setCells (fun h => by rcases h with h | h; exact absurd h.2 (by omega); exact hns.2.2.2.2.2.2.2.2.2.2.2.2.1 gb h rfl)), (by have hr := HO3.out.r4; simp only [hgn] at hr ⊢; exact Row.put RClass.firm hr HI.out (RClass.firm.kept HO.out (Kept.below HHe.out.below)) (fun b hb => by have := hb.2; omega)), HO3.out.r5.kept RBudget.firm hb5 (kept_setCells (fun h => by rcases h with h | h; exact absurd h.2 (by omega); exact hns.2.2.2.2.2.2.2.2.2.2.2.2.2.2 gb rfl h)), HO3.out.ap⟩
  have HT6 : Hid (u5.there (w.heap.size + 1 + 1 + 1) 0 6) := HH5.out.there 0 rfl
  obtain ⟨u6, hu6⟩ : ∃ u6, u6 = u5.setCells (w.heap.size + 1 + 1 + 1) 0 [J g0, J g1, J g2, J g3, .slice (some ⟨gb, 0, none⟩) gn gc, J g5] := ⟨_, rfl⟩
  have HB6 : Hid (Below w.heap.size w u6) := by rw [Hid, hu6]; exact below_setCells HH5.out.below (by omega)
  have HRG6 : Hid (u6.rangeAt (w.heap.size + 1 + 1 + 1) 0 [J g0, J g1, J g2, J g3, .slice (some ⟨gb, 0, none⟩) gn gc, J g5]) := by rw [Hid, hu6]; exact World.rangeAt_setCells_same _ _ _ _ HT6.out
  have HO6 : Hid (OwnSt (Lo A w) w u6 (J g0) (J g1) (J g2) (J g3) (.slice (some ⟨gb, 0, none⟩) gn gc) (J g5) (withLClass x (x.2.2.2.2.1.take i ++ o :: x.2.2.2.2.1.drop (i + 1)))) := by
   have hb6 := HB6.out
   rw [hu6] at hb6
   rw [Hid, hu6]
   exact HO5.out.kept hb6 (kept_setCells (fun h => by rcases h with h | h; exact absurd h.2 (by omega); have := (HB3.out _ h).1; omega))
  have HRGD : Hid (ue.rangeAt D 0 c) := HHe.out.get 0 rfl
  have HRG5 : Hid (u5.rangeAt (w.heap.size + 1) 0 [J g0, J g1, J g2, J g3, .slice (some ⟨gb, 0, none⟩) gn gc, J g5]) := HH5.out.get 1 rfl
  have HU5 : Hid (u5 = ue.setCells gb (i * 2) c) := hu5
  have HU6 : Hid (u6 = u5.setCells (w.heap.size + 1 + 1 + 1) 0 [J g0, J g1, J g2, J g3, .slice (some ⟨gb, 0, none⟩) gn gc, J g5]) := hu6
  clear hu5 hu6 hgb hns hg hcp hsz hgn hi' HH5 HO5 HHe HO3 HB3 HO HBY
  go_wp2_with (first | (refine wpList_load_mid rfl 42 _ rfl D 0 rfl c _ HRGD.out underlying42 rfl hit ?_) | (refine wpList_store_mid rfl 42 _ _ rfl gb (i * 2) c.toArray rfl rfl HTg.out hic h1a ?_; refine wpl_at HU5.out ?_) | (refine wpList_load_mid rfl 61 _ rfl (w.heap.size + 1) 0 rfl [J g0, J g1, J g2, J g3, .slice (some ⟨gb, 0, none⟩) gn gc, J g5] _ HRG5.out underlying61 rfl infoSta ?_) | (refine wpList_store_mid rfl 61 _ _ rfl (w.heap.size + 1 + 1 + 1) 0 #[J g0, J g1, J g2, J g3, .slice (some ⟨gb, 0, none⟩) gn gc, J g5] rfl rfl HT6.out infoSta (by simp [Value.oneCell']) ?_; refine wpl_at HU6.out ?_) | fail)
  refine bodyPost_ret (v := .tuple #[.agg #[J g0, J g1, J g2, J g3, .slice (some ⟨gb, 0, none⟩) gn gc, J g5], .bool true, .int .i64 0]) (res_cell3 (p := 6) (q := 7) (r := 8) (ty := 61) rfl _ _ (w.heap.size + 1 + 1 + 1) [J g0, J g1, J g2, J g3, .slice (some ⟨gb, 0, none⟩) gn gc, J g5] _ _ _ rfl rfl rfl HRG6.out underlying61 rfl infoSta) rfl ⟨g0, g1, g2, g3, (some ⟨gb, 0, none⟩, gn, gc), g5, by rw [HP.out], by rw [HP.out]; exact HO6.out, HB6.out⟩
 ·
  have HP0 : Hid (x.2.2.2.2.1.findIdx (fun y : ClassD => sEq y.1 o.1) = x.2.2.2.2.1.length) := findIdx_none (p := fun y : ClassD => sEq y.1 o.1) hn
  have HGL : Hid (g4.2.1 = x.2.2.2.2.1.length) := (HO3.out.r4.slG (bytes := 24) RClass.firm HBY.out).1.symm
  clear hn HFI
  by_cases h256 : 256 ≤ x.2.2.2.2.1.length
  ·
   have HP : Hid (putSClass x o = (noState, false, 3)) := by simp [Hid, putSClass, putL, HP0.out, h256]
   have hz : (256 : Int) ≤ (g4.2.1 : Int) := by rw [HGL.out]; omega
   have HT6 : Hid (ue.there (w.heap.size + 1 + 1 + 1) 0 6) := HHe.out.there 0 rfl
   obtain ⟨u6, hu6⟩ : ∃ u6, u6 = ue.setCells (w.heap.size + 1 + 1 + 1) 0 [Z, Z, Z, Z, Z, Z] := ⟨_, rfl⟩
   have HB6 : Hid (Below w.heap.size w u6) := by rw [Hid, hu6]; exact below_setCells HHe.out.below (by omega)
   have HRG6 : Hid (u6.rangeAt (w.heap.size + 1 + 1 + 1) 0 [Z, Z, Z, Z, Z, Z]) := by rw [Hid, hu6]; exact World.rangeAt_setCells_same _ _ _ _ HT6.out
   have HU6 : Hid (u6 = ue.setCells (w.heap.size + 1 + 1 + 1) 0 [Z, Z, Z, Z, Z, Z]) := hu6
   clear hu6 HHe HO3 HB3 HO HBY h256 HGL HP0
   go_wp2_with (first | (refine wpList_store_mid rfl 61 _ _ rfl (w.heap.size + 1 + 1 + 1) 0 #[Z, Z, Z, Z, Z, Z] rfl rfl HT6.out infoSta (by simp [Value.oneCell']) ?_; refine wpl_at HU6.out ?_) | fail)
   refine bodyPost_ret (v := .tuple #[.agg #[Z, Z, Z, Z, Z, Z], .bool false, .int .i64 3]) (res_cell3 (p := 6) (q := 7) (r := 8) (ty := 61) rfl _ _ (w.heap.size + 1 + 1 + 1) [Z, Z, Z, Z, Z, Z] _ _ _ rfl rfl rfl HRG6.out underlying61 rfl infoSta) rfl ⟨(none, 0, 0), (none, 0, 0), (none, 0, 0), (none, 0, 0), (none, 0, 0), (none, 0, 0), by rw [HP.out], by rw [HP.out]; exact OwnSt.none HB6.out, HB6.out⟩
  ·
   have hz : ¬ (256 : Int) ≤ (g4.2.1 : Int) := by rw [HGL.out]; omega
   have HLN : Hid (¬ 256 ≤ x.2.2.2.2.1.length) := h256
   clear h256 HGL
   go_wp2_with fail
   clear hz
   have HOSc : Hid (OwnSt (Lo A w) w ue.drew (J g0) (J g1) (J g2) (J g3) (.slice g4.1 g4.2.1 g4.2.2) (J g5) x) := HO3.out.on (Below.refl _ _).drew
   clear HO3
   refine t0 (Held w [(D, c), (w.heap.size + 1, [J g0, J g1, J g2, J g3, .slice g4.1 g4.2.1 g4.2.2, J g5]), (w.heap.size + 1 + 1, p ++ (c ++ q)), (w.heap.size, [.iface 152 (.agg #[])])] [(w.heap.size + 1 + 1 + 1, 6)]) (HHe.out.drew) (fun hH => ?_)
   generalize ue.drew = y0 at hH HOSc ⊢
   refine tp 0 ?_; try go_frame
   refine' tk 1 ?_ ?_; rotate_left
   ·
    intro u hu; have hc0 := Held.cell hu 3 rfl 0 rfl; clear hu; go_simp; try with_reducible rfl
   try go_frame
   refine tq 2 (.agg ([J g0, J g1, J g2, J g3, .slice g4.1 g4.2.1 g4.2.2, J g5]).toArray) (yieldsIf_load_mid (by rfl) 61 _ rfl (w.heap.size + 1) 0 rfl ([J g0, J g1, J g2, J g3, .slice g4.1 g4.2.1 g4.2.2, J g5]) _ (fun u hu => Held.get hu 1 rfl) underlying61 rfl infoSta) ?_ (hi := rfl)
   try go_frame
   refine tp 3 ?_; try go_frame
   refine tp 4 ?_; try go_frame
   refine' tk 5 ?_ ?_; rotate_left
   ·
    intro u hu; have hc0 := Held.cell hu 3 rfl 0 rfl; clear hu; go_simp; try with_reducible rfl
   try go_frame
   refine tp 6 ?_; try go_frame
   refine tp 7 ?_; try go_frame
   refine' tk 8 ?_ ?_; rotate_left
   ·
    intro u hu; have hc0 := Held.cell hu 3 rfl 0 rfl; clear hu; go_simp; try with_reducible rfl
   try go_frame
   refine tq 9 (.agg (c).toArray) (yieldsIf_load_mid (by rfl) 42 _ rfl (D) 0 rfl (c) _ (fun u hu => Held.get hu 0 rfl) underlying42 rfl hit) ?_ (hi := rfl)
   try go_frame
   refine tq 12 (.agg (c).toArray) (yieldsIf_load_mid (by rfl) 42 _ rfl (D) 0 rfl (c) _ (fun u hu => Held.get hu 0 rfl) underlying42 rfl hit) ?_ (hi := rfl)
   try go_frame
   refine tp 15 ?_; try go_frame
   refine tp 16 ?_; try go_frame
   refine wpAnyH_ready (rs := [10, 13]) (by kernel_rfl) (by simp) ?_
   refine AllReadyH.cons rfl (fun K hK => ?g19x0) (AllReadyH.cons rfl (fun K hK => ?g19x1) (AllReadyH.nil))
   case' g19x0 =>
    refine want_yes (by rfl) (call_enter (f := 278) (args := #[.agg #[], .agg c.toArray]) (by kernel_rfl) (Class_named c _ o _ (RClass.firm.kept HO.out (Kept.below hH.below))) (fun e yb he => ?_))
    obtain ⟨rfl, hb_yb⟩ := he
    have HOSn := OwnSt.on HOSc.out hb_yb
    clear HOSc
    have HOSc : Hid _ := HOSn
    clear HOSn
    refine ⟨_, rfl, hK.out _ _ (hH.on hb_yb) (fun hH => ?_)⟩
    clear hK K
    try simp only [Act.put, setIfInBounds_toArray, set_cons_zero, set_cons_succ, getElem_toArray, getElem_cons_zero, getElem_cons_succ]
    refine wpAnyH_ready (rs := [11, 13]) (by kernel_rfl) (by simp) ?_
    refine AllReadyH.cons rfl (fun K hK => ?g20x0) (AllReadyH.cons rfl (fun K hK => ?g20x1) (AllReadyH.nil))
    case' g20x0 =>
     refine want_yes (by rfl) (call_enter (f := 293) (args := #[.iface 152 (.agg #[]), .slice g4.1 g4.2.1 g4.2.2, .string o.1]) (by kernel_rfl) (placerClass _ _ _ _ x.2.2.2.2.1 o.1 _ (HOSc.out.r4.slG (bytes := 24) RClass.firm HBY.out)) (fun e yc he => ?_))
     obtain ⟨i, rfl, hpi, hb_yc⟩ := he
     have HPI : Hid (PlaceIsClass x.2.2.2.2.1 o.1 i) := hpi
     clear hpi
     have HOSn := OwnSt.on HOSc.out hb_yc
     clear HOSc
     have HOSc : Hid _ := HOSn
     clear HOSn
     refine ⟨_, rfl, hK.out _ _ (hH.on hb_yc) (fun hH => ?_)⟩
     clear hK K
     try simp only [Act.put, setIfInBounds_toArray, set_cons_zero, set_cons_succ, getElem_toArray, getElem_cons_zero, getElem_cons_succ]
     first | refine tr 13 (fun K hK => ?_) | refine ts 13 (fun K hK => ?_)
     refine want_yes (by rfl) (wp_buildSlice 58 42 1 _ rfl c.toArray i0 _ underlying58 hi0 hz0 (by rw [hzs]; decide) (by rw [hzs]; decide) (by rw [hzs]; simp only [List.map_toArray]; exact filClass c hc) ?_)
     have hba : Below yc.heap.size yc (yc.alloc (.cells c.toArray 42)) := (Below.refl _ _).alloc (Nat.le_refl _) _
     have HV : Hid ((yc.alloc (.cells c.toArray 42)).heap[yc.heap.size]? = some (.cells c.toArray 42 (0, 0)) ∧ yc.heap.size < (yc.alloc (.cells c.toArray 42)).heap.size) := ⟨heap_new _ _ _ rfl, by simp⟩
     have HVO : Hid (∀ b, OwnB (J g0) (J g1) (J g2) (J g3) (.slice g4.1 g4.2.1 g4.2.2) (J g5) b → b ≠ yc.heap.size) := fun b hb => Nat.ne_of_lt (HOSc.out.lt hb).2
     have HOSn := OwnSt.on HOSc.out hba
     clear HOSc
     have HOSc : Hid _ := HOSn
     clear HOSn
     obtain ⟨va, hva⟩ : ∃ va, va = yc.alloc (.cells c.toArray 42) := ⟨_, rfl⟩
     rw [← hva] at HV HOSc hba
     refine at_world hva ?_
     clear hva
     refine hK.out _ _ (hH.on hba) (fun hH => ?_)
     clear hK K
     try go_frame
     refine tr 14 (fun K hK => ?_)
     refine want_yes (by rfl) (call_enter (f := 292) (args := #[.slice g4.1 g4.2.1 g4.2.2, .int .i64 i, .slice (some ⟨yc.heap.size, 0, none⟩) 1 1]) (by kernel_rfl) (InsRowClass w va _ (.slice g4.1 g4.2.1 g4.2.2) x.2.2.2.2.1 i (yc.heap.size) c HOSc.out.r4 hc h1 HV.out.1 (fun e => HVO.out _ (by simp [OwnB, e]) rfl) HPI.out.1 (by have := HLN.out; omega)) (fun e ui he => ?_))
     obtain ⟨v', rfl, xs, hown, hch, hown', hgr, h5⟩ := he
     have hns := ns_of HOSc.out.ap
     have hHi : Held w [(D, c), (w.heap.size + 1, [J g0, J g1, J g2, J g3, .slice g4.1 g4.2.1 g4.2.2, J g5]), (w.heap.size + 1 + 1, p ++ (c ++ q)), (w.heap.size, [.iface 152 (.agg #[])])] [(w.heap.size + 1 + 1 + 1, 6)] ui := hH.grown hgr (fun b e => by have h := HB3.out b (by simp [OwnB, e]); refine ⟨by omega, fun z hz => ?_, fun y hy => ?_⟩; (simp only [List.mem_cons, List.not_mem_nil, or_false] at hz; rcases hz with rfl | rfl | rfl | rfl <;> simp <;> omega); (simp only [List.mem_cons, List.not_mem_nil, or_false] at hy; subst hy; simp; omega))
     have hbi := hHi.below
     have hwb : ∀ b, Value.ownBlock (.slice g4.1 g4.2.1 g4.2.2) = some b → w.heap.size ≤ b := fun b e => by have := (HB3.out b (by simp [OwnB, e])).1; omega
     have hosn : OwnSt (Lo A w) w ui (J g0) (J g1) (J g2) (J g3) v' (J g5) (withLClass x (x.2.2.2.2.1.take i ++ o :: x.2.2.2.2.1.drop i)) := ⟨HOSc.out.r0.kept RPod.firm hbi (kgr hgr hwb hns.2.2.2.1), HOSc.out.r1.kept RNode.firm hbi (kgr hgr hwb hns.2.2.2.2.2.2.2.1), HOSc.out.r2.kept RVolume.firm hbi (kgr hgr hwb hns.2.2.2.2.2.2.2.2.2.2.1), HOSc.out.r3.kept RClaim.firm hbi (kgr hgr hwb hns.2.2.2.2.2.2.2.2.2.2.2.2.1), Row.grew RClass.firm hown ((hch.take i HPI.out.1).append ((chunk_one RClass.firm (RClass.firm.weak (RClass.firm.kept HO.out (Kept.below hH.below)) (fun b _ h => ⟨h, fun e => absurd h.2 (Nat.not_lt.2 (hwb b e))⟩))).append (hch.drop i))) (by have e1 : (x.2.2.2.2.1.take i ++ o :: x.2.2.2.2.1.drop i).length = x.2.2.2.2.1.length + 1 := (by have := HPI.out.1; simp; omega); show World.ownsRow ui w.heap.size 42 2 v' (x.2.2.2.2.1.take i ++ o :: x.2.2.2.2.1.drop i).length _; rw [e1, ← List.append_assoc]; exact hown') hgr h5, HOSc.out.r5.kept RBudget.firm hbi (kgr hgr hwb (fun b h e => hns.2.2.2.2.2.2.2.2.2.2.2.2.2.2 b e h)), pair6 (hns.1) (hns.2.1) (hns.2.2.1) (pnw h5 hns.2.2.2.1 (fun b h => (HOSc.out.r0.lt h).2)) (hns.2.2.2.2.1) (hns.2.2.2.2.2.1) (hns.2.2.2.2.2.2.1) (pnw h5 hns.2.2.2.2.2.2.2.1 (fun b h => (HOSc.out.r1.lt h).2)) (hns.2.2.2.2.2.2.2.2.1) (hns.2.2.2.2.2.2.2.2.2.1) (pnw h5 hns.2.2.2.2.2.2.2.2.2.2.1 (fun b h => (HOSc.out.r2.lt h).2)) (hns.2.2.2.2.2.2.2.2.2.2.2.1) (pnw h5 hns.2.2.2.2.2.2.2.2.2.2.2.2.1 (fun b h => (HOSc.out.r3.lt h).2)) (hns.2.2.2.2.2.2.2.2.2.2.2.2.2.1) (fun b h e => pnw h5 (fun b h e => hns.2.2.2.2.2.2.2.2.2.2.2.2.2.2 b e h) (fun b h => (HOSc.out.r5.lt h).2) b e h)⟩
     obtain ⟨gk, rfl, hz1⟩ := hosn.r4.hd
     clear hz1
     have HOSk : Hid (OwnSt (Lo A w) w ui (J g0) (J g1) (J g2) (J g3) (J gk) (J g5) (withLClass x (x.2.2.2.2.1.take i ++ o :: x.2.2.2.2.1.drop i))) := hosn
     have HBK : Hid (∀ b, OwnB (J g0) (J g1) (J g2) (J g3) (J gk) (J g5) b → w.heap.size + 1 + 1 + 1 < b) := fun b hb => by have h8 := (HOSc.out.below).size; have h9 := hH.ltM 0 (b := w.heap.size + 1 + 1 + 1) rfl; simp only [OwnB] at hb; rcases hb with hb | hb | hb | hb | hb | hb <;> first | (refine (HB3.out b ?_).1; simp [OwnB, hb]; done) | (rcases h5 with h5 | h5; (rw [h5] at hb; exact (HB3.out b (by simp [OwnB, hb])).1); (rw [h5] at hb; have h7 : va.heap.size = b := (by simpa using hb); omega))
     have HP : Hid (putSClass x o = (withLClass x (x.2.2.2.2.1.take i ++ o :: x.2.2.2.2.1.drop i), false, 0)) := by simp [Hid, putSClass, putL, HP0.out, HLN.out, HPI.out.2]
     clear hosn hns hown hch hown' hgr h5 HOSc HV HVO hwb
     refine ⟨_, rfl, hK.out _ _ (hHi) (fun hH => ?_)⟩
     clear hK K
     try go_frame
     refine tr 17 (fun K hK => ?_)
     refine want_yes (by rfl) (call_enter (f := 281) (args := #[.agg #[], .agg #[J g0, J g1, J g2, J g3, .slice g4.1 g4.2.1 g4.2.2, J g5], J gk]) (by kernel_rfl) (Class_with g0 g1 g2 g3 g4 g5 gk _) (fun e uw he => ?_))
     obtain ⟨rfl, hbw⟩ := he
     have HOSn := OwnSt.on HOSk.out hbw
     clear HOSk
     have HOSk : Hid _ := HOSn
     clear HOSn
     refine ⟨_, rfl, hK.out _ _ (hH.on hbw) (fun hH => ?_)⟩
     clear hK K
     try go_frame
     first | refine tr 18 (fun K hK => ?_) | refine ts 18 (fun K hK => ?_)
     refine want_yes (by rfl) (wp_store_mid 61 _ _ rfl (w.heap.size + 1 + 1 + 1) 0 #[J g0, J g1, J g2, J g3, J gk, J g5] rfl rfl (hH.there 0 rfl) infoSta (by simp [Value.oneCell']) ?_)
     obtain ⟨u6, hu6⟩ : ∃ u6, u6 = uw.setCells (w.heap.size + 1 + 1 + 1) 0 [J g0, J g1, J g2, J g3, J gk, J g5] := ⟨_, rfl⟩
     have HT6 := hH.there 0 (b := w.heap.size + 1 + 1 + 1) rfl
     have HB6 : Hid (Below w.heap.size w u6) := by rw [Hid, hu6]; exact below_setCells hH.below (by omega)
     have HRG6 : Hid (u6.rangeAt (w.heap.size + 1 + 1 + 1) 0 [J g0, J g1, J g2, J g3, J gk, J g5]) := by rw [Hid, hu6]; exact World.rangeAt_setCells_same _ _ _ _ HT6
     have HO6 : Hid (OwnSt (Lo A w) w u6 (J g0) (J g1) (J g2) (J g3) (J gk) (J g5) (withLClass x (x.2.2.2.2.1.take i ++ o :: x.2.2.2.2.1.drop i))) := by (have hb6 := HB6.out; rw [hu6] at hb6; rw [Hid, hu6]; exact HOSk.out.kept hb6 (kept_setCells (fun h => by rcases h with h | h; exact absurd h.2 (by omega); have := HBK.out _ h; omega)))
     refine at_world hu6 ?_
     refine hK.out _ _ (by rw [hu6]; exact hH.wrote 0 rfl (fun z hz => by have := HD3.out; simp only [List.mem_cons, List.not_mem_nil, or_false] at hz; rcases hz with rfl | rfl | rfl | rfl <;> simp <;> omega)) (fun hH2 => ?_)
     clear hu6 HT6 HOSk HBK
     clear hK K hH; have hH := hH2; clear hH2
     try go_frame
     refine tp 19 ?_; try go_frame
     refine tp 20 ?_; try go_frame
    case' g20x1 =>
     refine want_yes (by rfl) (wp_buildSlice 58 42 1 _ rfl c.toArray i0 _ underlying58 hi0 hz0 (by rw [hzs]; decide) (by rw [hzs]; decide) (by rw [hzs]; simp only [List.map_toArray]; exact filClass c hc) ?_)
     have hba : Below yb.heap.size yb (yb.alloc (.cells c.toArray 42)) := (Below.refl _ _).alloc (Nat.le_refl _) _
     have HV : Hid ((yb.alloc (.cells c.toArray 42)).heap[yb.heap.size]? = some (.cells c.toArray 42 (0, 0)) ∧ yb.heap.size < (yb.alloc (.cells c.toArray 42)).heap.size) := ⟨heap_new _ _ _ rfl, by simp⟩
     have HVO : Hid (∀ b, OwnB (J g0) (J g1) (J g2) (J g3) (.slice g4.1 g4.2.1 g4.2.2) (J g5) b → b ≠ yb.heap.size) := fun b hb => Nat.ne_of_lt (HOSc.out.lt hb).2
     have HOSn := OwnSt.on HOSc.out hba
     clear HOSc
     have HOSc : Hid _ := HOSn
     clear HOSn
     obtain ⟨va, hva⟩ : ∃ va, va = yb.alloc (.cells c.toArray 42) := ⟨_, rfl⟩
     rw [← hva] at HV HOSc hba
     refine at_world hva ?_
     clear hva
     refine hK.out _ _ (hH.on hba) (fun hH => ?_)
     clear hK K
     try simp only [Act.put, setIfInBounds_toArray, set_cons_zero, set_cons_succ, getElem_toArray, getElem_cons_zero, getElem_cons_succ]
     refine tr 11 (fun K hK => ?_)
     refine want_yes (by rfl) (call_enter (f := 293) (args := #[.iface 152 (.agg #[]), .slice g4.1 g4.2.1 g4.2.2, .string o.1]) (by kernel_rfl) (placerClass _ _ _ _ x.2.2.2.2.1 o.1 _ (HOSc.out.r4.slG (bytes := 24) RClass.firm HBY.out)) (fun e yc he => ?_))
     obtain ⟨i, rfl, hpi, hb_yc⟩ := he
     have HPI : Hid (PlaceIsClass x.2.2.2.2.1 o.1 i) := hpi
     clear hpi
     have HOSn := OwnSt.on HOSc.out hb_yc
     clear HOSc
     have HOSc : Hid _ := HOSn
     clear HOSn
     have HVn : Hid (yc.heap[yb.heap.size]? = some (.cells c.toArray 42 (0, 0)) ∧ yb.heap.size < yc.heap.size) := ⟨by rw [hb_yc.block _ HV.out.2]; exact HV.out.1, Nat.lt_of_lt_of_le HV.out.2 hb_yc.size⟩
     clear HV
     have HV := HVn
     clear HVn
     refine ⟨_, rfl, hK.out _ _ (hH.on hb_yc) (fun hH => ?_)⟩
     clear hK K
     try go_frame
     refine tr 14 (fun K hK => ?_)
     refine want_yes (by rfl) (call_enter (f := 292) (args := #[.slice g4.1 g4.2.1 g4.2.2, .int .i64 i, .slice (some ⟨yb.heap.size, 0, none⟩) 1 1]) (by kernel_rfl) (InsRowClass w yc _ (.slice g4.1 g4.2.1 g4.2.2) x.2.2.2.2.1 i (yb.heap.size) c HOSc.out.r4 hc h1 HV.out.1 (fun e => HVO.out _ (by simp [OwnB, e]) rfl) HPI.out.1 (by have := HLN.out; omega)) (fun e ui he => ?_))
     obtain ⟨v', rfl, xs, hown, hch, hown', hgr, h5⟩ := he
     have hns := ns_of HOSc.out.ap
     have hHi : Held w [(D, c), (w.heap.size + 1, [J g0, J g1, J g2, J g3, .slice g4.1 g4.2.1 g4.2.2, J g5]), (w.heap.size + 1 + 1, p ++ (c ++ q)), (w.heap.size, [.iface 152 (.agg #[])])] [(w.heap.size + 1 + 1 + 1, 6)] ui := hH.grown hgr (fun b e => by have h := HB3.out b (by simp [OwnB, e]); refine ⟨by omega, fun z hz => ?_, fun y hy => ?_⟩; (simp only [List.mem_cons, List.not_mem_nil, or_false] at hz; rcases hz with rfl | rfl | rfl | rfl <;> simp <;> omega); (simp only [List.mem_cons, List.not_mem_nil, or_false] at hy; subst hy; simp; omega))
     have hbi := hHi.below
     have hwb : ∀ b, Value.ownBlock (.slice g4.1 g4.2.1 g4.2.2) = some b → w.heap.size ≤ b := fun b e => by have := (HB3.out b (by simp [OwnB, e])).1; omega
     have hosn : OwnSt (Lo A w) w ui (J g0) (J g1) (J g2) (J g3) v' (J g5) (withLClass x (x.2.2.2.2.1.take i ++ o :: x.2.2.2.2.1.drop i)) := ⟨HOSc.out.r0.kept RPod.firm hbi (kgr hgr hwb hns.2.2.2.1), HOSc.out.r1.kept RNode.firm hbi (kgr hgr hwb hns.2.2.2.2.2.2.2.1), HOSc.out.r2.kept RVolume.firm hbi (kgr hgr hwb hns.2.2.2.2.2.2.2.2.2.2.1), HOSc.out.r3.kept RClaim.firm hbi (kgr hgr hwb hns.2.2.2.2.2.2.2.2.2.2.2.2.1), Row.grew RClass.firm hown ((hch.take i HPI.out.1).append ((chunk_one RClass.firm (RClass.firm.weak (RClass.firm.kept HO.out (Kept.below hH.below)) (fun b _ h => ⟨h, fun e => absurd h.2 (Nat.not_lt.2 (hwb b e))⟩))).append (hch.drop i))) (by have e1 : (x.2.2.2.2.1.take i ++ o :: x.2.2.2.2.1.drop i).length = x.2.2.2.2.1.length + 1 := (by have := HPI.out.1; simp; omega); show World.ownsRow ui w.heap.size 42 2 v' (x.2.2.2.2.1.take i ++ o :: x.2.2.2.2.1.drop i).length _; rw [e1, ← List.append_assoc]; exact hown') hgr h5, HOSc.out.r5.kept RBudget.firm hbi (kgr hgr hwb (fun b h e => hns.2.2.2.2.2.2.2.2.2.2.2.2.2.2 b e h)), pair6 (hns.1) (hns.2.1) (hns.2.2.1) (pnw h5 hns.2.2.2.1 (fun b h => (HOSc.out.r0.lt h).2)) (hns.2.2.2.2.1) (hns.2.2.2.2.2.1) (hns.2.2.2.2.2.2.1) (pnw h5 hns.2.2.2.2.2.2.2.1 (fun b h => (HOSc.out.r1.lt h).2)) (hns.2.2.2.2.2.2.2.2.1) (hns.2.2.2.2.2.2.2.2.2.1) (pnw h5 hns.2.2.2.2.2.2.2.2.2.2.1 (fun b h => (HOSc.out.r2.lt h).2)) (hns.2.2.2.2.2.2.2.2.2.2.2.1) (pnw h5 hns.2.2.2.2.2.2.2.2.2.2.2.2.1 (fun b h => (HOSc.out.r3.lt h).2)) (hns.2.2.2.2.2.2.2.2.2.2.2.2.2.1) (fun b h e => pnw h5 (fun b h e => hns.2.2.2.2.2.2.2.2.2.2.2.2.2.2 b e h) (fun b h => (HOSc.out.r5.lt h).2) b e h)⟩
     obtain ⟨gk, rfl, hz1⟩ := hosn.r4.hd
     clear hz1
     have HOSk : Hid (OwnSt (Lo A w) w ui (J g0) (J g1) (J g2) (J g3) (J gk) (J g5) (withLClass x (x.2.2.2.2.1.take i ++ o :: x.2.2.2.2.1.drop i))) := hosn
     have HBK : Hid (∀ b, OwnB (J g0) (J g1) (J g2) (J g3) (J gk) (J g5) b → w.heap.size + 1 + 1 + 1 < b) := fun b hb => by have h8 := (HOSc.out.below).size; have h9 := hH.ltM 0 (b := w.heap.size + 1 + 1 + 1) rfl; simp only [OwnB] at hb; rcases hb with hb | hb | hb | hb | hb | hb <;> first | (refine (HB3.out b ?_).1; simp [OwnB, hb]; done) | (rcases h5 with h5 | h5; (rw [h5] at hb; exact (HB3.out b (by simp [OwnB, hb])).1); (rw [h5] at hb; have h7 : yc.heap.size = b := (by simpa using hb); omega))
     have HP : Hid (putSClass x o = (withLClass x (x.2.2.2.2.1.take i ++ o :: x.2.2.2.2.1.drop i), false, 0)) := by simp [Hid, putSClass, putL, HP0.out, HLN.out, HPI.out.2]
     clear hosn hns hown hch hown' hgr h5 HOSc HV HVO hwb
     refine ⟨_, rfl, hK.out _ _ (hHi) (fun hH => ?_)⟩
     clear hK K
     try go_frame
     refine tr 17 (fun K hK => ?_)
     refine want_yes (by rfl) (call_enter (f := 281) (args := #[.agg #[], .agg #[J g0, J g1, J g2, J g3, .slice g4.1 g4.2.1 g4.2.2, J g5], J gk]) (by kernel_rfl) (Class_with g0 g1 g2 g3 g4 g5 gk _) (fun e uw he => ?_))
     obtain ⟨rfl, hbw⟩ := he
     have HOSn := OwnSt.on HOSk.out hbw
     clear HOSk
     have HOSk : Hid _ := HOSn
     clear HOSn
     refine ⟨_, rfl, hK.out _ _ (hH.on hbw) (fun hH => ?_)⟩
     clear hK K
     try go_frame
     first | refine tr 18 (fun K hK => ?_) | refine ts 18 (fun K hK => ?_)
     refine want_yes (by rfl) (wp_store_mid 61 _ _ rfl (w.heap.size + 1 + 1 + 1) 0 #[J g0, J g1, J g2, J g3, J gk, J g5] rfl rfl (hH.there 0 rfl) infoSta (by simp [Value.oneCell']) ?_)
     obtain ⟨u6, hu6⟩ : ∃ u6, u6 = uw.setCells (w.heap.size + 1 + 1 + 1) 0 [J g0, J g1, J g2, J g3, J gk, J g5] := ⟨_, rfl⟩
     have HT6 := hH.there 0 (b := w.heap.size + 1 + 1 + 1) rfl
     have HB6 : Hid (Below w.heap.size w u6) := by rw [Hid, hu6]; exact below_setCells hH.below (by omega)
     have HRG6 : Hid (u6.rangeAt (w.heap.size + 1 + 1 + 1) 0 [J g0, J g1, J g2, J g3, J gk, J g5]) := by rw [Hid, hu6]; exact World.rangeAt_setCells_same _ _ _ _ HT6
     have HO6 : Hid (OwnSt (Lo A w) w u6 (J g0) (J g1) (J g2) (J g3) (J gk) (J g5) (withLClass x (x.2.2.2.2.1.take i ++ o :: x.2.2.2.2.1.drop i))) := by (have hb6 := HB6.out; rw [hu6] at hb6; rw [Hid, hu6]; exact HOSk.out.kept hb6 (kept_setCells (fun h => by rcases h with h | h; exact absurd h.2 (by omega); have := HBK.out _ h; omega)))
     refine at_world hu6 ?_
     refine hK.out _ _ (by rw [hu6]; exact hH.wrote 0 rfl (fun z hz => by have := HD3.out; simp only [List.mem_cons, List.not_mem_nil, or_false] at hz; rcases hz with rfl | rfl | rfl | rfl <;> simp <;> omega)) (fun hH2 => ?_)
     clear hu6 HT6 HOSk HBK
     clear hK K hH; have hH := hH2; clear hH2
     try go_frame
     refine tp 19 ?_; try go_frame
     refine tp 20 ?_; try go_frame
   case' g19x1 =>
    refine want_yes (by rfl) (wp_buildSlice 58 42 1 _ rfl c.toArray i0 _ underlying58 hi0 hz0 (by rw [hzs]; decide) (by rw [hzs]; decide) (by rw [hzs]; simp only [List.map_toArray]; exact filClass c hc) ?_)
    have hba : Below y0.heap.size y0 (y0.alloc (.cells c.toArray 42)) := (Below.refl _ _).alloc (Nat.le_refl _) _
    have HV : Hid ((y0.alloc (.cells c.toArray 42)).heap[y0.heap.size]? = some (.cells c.toArray 42 (0, 0)) ∧ y0.heap.size < (y0.alloc (.cells c.toArray 42)).heap.size) := ⟨heap_new _ _ _ rfl, by simp⟩
    have HVO : Hid (∀ b, OwnB (J g0) (J g1) (J g2) (J g3) (.slice g4.1 g4.2.1 g4.2.2) (J g5) b → b ≠ y0.heap.size) := fun b hb => Nat.ne_of_lt (HOSc.out.lt hb).2
    have HOSn := OwnSt.on HOSc.out hba
    clear HOSc
    have HOSc : Hid _ := HOSn
    clear HOSn
    obtain ⟨va, hva⟩ : ∃ va, va = y0.alloc (.cells c.toArray 42) := ⟨_, rfl⟩
    rw [← hva] at HV HOSc hba
    refine at_world hva ?_
    clear hva
    refine hK.out _ _ (hH.on hba) (fun hH => ?_)
    clear hK K
    try simp only [Act.put, setIfInBounds_toArray, set_cons_zero, set_cons_succ, getElem_toArray, getElem_cons_zero, getElem_cons_succ]
    refine tr 10 (fun K hK => ?_)
    refine want_yes (by rfl) (call_enter (f := 278) (args := #[.agg #[], .agg c.toArray]) (by kernel_rfl) (Class_named c _ o _ (RClass.firm.kept HO.out (Kept.below hH.below))) (fun e yb he => ?_))
    obtain ⟨rfl, hb_yb⟩ := he
    have HOSn := OwnSt.on HOSc.out hb_yb
    clear HOSc
    have HOSc : Hid _ := HOSn
    clear HOSn
    have HVn : Hid (yb.heap[y0.heap.size]? = some (.cells c.toArray 42 (0, 0)) ∧ y0.heap.size < yb.heap.size) := ⟨by rw [hb_yb.block _ HV.out.2]; exact HV.out.1, Nat.lt_of_lt_of_le HV.out.2 hb_yb.size⟩
    clear HV
    have HV := HVn
    clear HVn
    refine ⟨_, rfl, hK.out _ _ (hH.on hb_yb) (fun hH => ?_)⟩
    clear hK K
    try go_frame
    refine tr 11 (fun K hK => ?_)
    refine want_yes (by rfl) (call_enter (f := 293) (args := #[.iface 152 (.agg #[]), .slice g4.1 g4.2.1 g4.2.2, .string o.1]) (by kernel_rfl) (placerClass _ _ _ _ x.2.2.2.2.1 o.1 _ (HOSc.out.r4.slG (bytes := 24) RClass.firm HBY.out)) (fun e yc he => ?_))
    obtain ⟨i, rfl, hpi, hb_yc⟩ := he
    have HPI : Hid (PlaceIsClass x.2.2.2.2.1 o.1 i) := hpi
    clear hpi
    have HOSn := OwnSt.on HOSc.out hb_yc
    clear HOSc
    have HOSc : Hid _ := HOSn
    clear HOSn
    have HVn : Hid (yc.heap[y0.heap.size]? = some (.cells c.toArray 42 (0, 0)) ∧ y0.heap.size < yc.heap.size) := ⟨by rw [hb_yc.block _ HV.out.2]; exact HV.out.1, Nat.lt_of_lt_of_le HV.out.2 hb_yc.size⟩
    clear HV
    have HV := HVn
    clear HVn
    refine ⟨_, rfl, hK.out _ _ (hH.on hb_yc) (fun hH => ?_)⟩
    clear hK K
    try go_frame
    refine tr 14 (fun K hK => ?_)
    refine want_yes (by rfl) (call_enter (f := 292) (args := #[.slice g4.1 g4.2.1 g4.2.2, .int .i64 i, .slice (some ⟨y0.heap.size, 0, none⟩) 1 1]) (by kernel_rfl) (InsRowClass w yc _ (.slice g4.1 g4.2.1 g4.2.2) x.2.2.2.2.1 i (y0.heap.size) c HOSc.out.r4 hc h1 HV.out.1 (fun e => HVO.out _ (by simp [OwnB, e]) rfl) HPI.out.1 (by have := HLN.out; omega)) (fun e ui he => ?_))
    obtain ⟨v', rfl, xs, hown, hch, hown', hgr, h5⟩ := he
    have hns := ns_of HOSc.out.ap
    have hHi : Held w [(D, c), (w.heap.size + 1, [J g0, J g1, J g2, J g3, .slice g4.1 g4.2.1 g4.2.2, J g5]), (w.heap.size + 1 + 1, p ++ (c ++ q)), (w.heap.size, [.iface 152 (.agg #[])])] [(w.heap.size + 1 + 1 + 1, 6)] ui := hH.grown hgr (fun b e => by have h := HB3.out b (by simp [OwnB, e]); refine ⟨by omega, fun z hz => ?_, fun y hy => ?_⟩; (simp only [List.mem_cons, List.not_mem_nil, or_false] at hz; rcases hz with rfl | rfl | rfl | rfl <;> simp <;> omega); (simp only [List.mem_cons, List.not_mem_nil, or_false] at hy; subst hy; simp; omega))
    have hbi := hHi.below
    have hwb : ∀ b, Value.ownBlock (.slice g4.1 g4.2.1 g4.2.2) = some b → w.heap.size ≤ b := fun b e => by have := (HB3.out b (by simp [OwnB, e])).1; omega
    have hosn : OwnSt (Lo A w) w ui (J g0) (J g1) (J g2) (J g3) v' (J g5) (withLClass x (x.2.2.2.2.1.take i ++ o :: x.2.2.2.2.1.drop i)) := ⟨HOSc.out.r0.kept RPod.firm hbi (kgr hgr hwb hns.2.2.2.1), HOSc.out.r1.kept RNode.firm hbi (kgr hgr hwb hns.2.2.2.2.2.2.2.1), HOSc.out.r2.kept RVolume.firm hbi (kgr hgr hwb hns.2.2.2.2.2.2.2.2.2.2.1), HOSc.out.r3.kept RClaim.firm hbi (kgr hgr hwb hns.2.2.2.2.2.2.2.2.2.2.2.2.1), Row.grew RClass.firm hown ((hch.take i HPI.out.1).append ((chunk_one RClass.firm (RClass.firm.weak (RClass.firm.kept HO.out (Kept.below hH.below)) (fun b _ h => ⟨h, fun e => absurd h.2 (Nat.not_lt.2 (hwb b e))⟩))).append (hch.drop i))) (by have e1 : (x.2.2.2.2.1.take i ++ o :: x.2.2.2.2.1.drop i).length = x.2.2.2.2.1.length + 1 := (by have := HPI.out.1; simp; omega); show World.ownsRow ui w.heap.size 42 2 v' (x.2.2.2.2.1.take i ++ o :: x.2.2.2.2.1.drop i).length _; rw [e1, ← List.append_assoc]; exact hown') hgr h5, HOSc.out.r5.kept RBudget.firm hbi (kgr hgr hwb (fun b h e => hns.2.2.2.2.2.2.2.2.2.2.2.2.2.2 b e h)), pair6 (hns.1) (hns.2.1) (hns.2.2.1) (pnw h5 hns.2.2.2.1 (fun b h => (HOSc.out.r0.lt h).2)) (hns.2.2.2.2.1) (hns.2.2.2.2.2.1) (hns.2.2.2.2.2.2.1) (pnw h5 hns.2.2.2.2.2.2.2.1 (fun b h => (HOSc.out.r1.lt h).2)) (hns.2.2.2.2.2.2.2.2.1) (hns.2.2.2.2.2.2.2.2.2.1) (pnw h5 hns.2.2.2.2.2.2.2.2.2.2.1 (fun b h => (HOSc.out.r2.lt h).2)) (hns.2.2.2.2.2.2.2.2.2.2.2.1) (pnw h5 hns.2.2.2.2.2.2.2.2.2.2.2.2.1 (fun b h => (HOSc.out.r3.lt h).2)) (hns.2.2.2.2.2.2.2.2.2.2.2.2.2.1) (fun b h e => pnw h5 (fun b h e => hns.2.2.2.2.2.2.2.2.2.2.2.2.2.2 b e h) (fun b h => (HOSc.out.r5.lt h).2) b e h)⟩
    obtain ⟨gk, rfl, hz1⟩ := hosn.r4.hd
    clear hz1
    have HOSk : Hid (OwnSt (Lo A w) w ui (J g0) (J g1) (J g2) (J g3) (J gk) (J g5) (withLClass x (x.2.2.2.2.1.take i ++ o :: x.2.2.2.2.1.drop i))) := hosn
    have HBK : Hid (∀ b, OwnB (J g0) (J g1) (J g2) (J g3) (J gk) (J g5) b → w.heap.size + 1 + 1 + 1 < b) := fun b hb => by have h8 := (HOSc.out.below).size; have h9 := hH.ltM 0 (b := w.heap.size + 1 + 1 + 1) rfl; simp only [OwnB] at hb; rcases hb with hb | hb | hb | hb | hb | hb <;> first | (refine (HB3.out b ?_).1; simp [OwnB, hb]; done) | (rcases h5 with h5 | h5; (rw [h5] at hb; exact (HB3.out b (by simp [OwnB, hb])).1); (rw [h5] at hb; have h7 : yc.heap.size = b := (by simpa using hb); omega))
    have HP : Hid (putSClass x o = (withLClass x (x.2.2.2.2.1.take i ++ o :: x.2.2.2.2.1.drop i), false, 0)) := by simp [Hid, putSClass, putL, HP0.out, HLN.out, HPI.out.2]
    clear hosn hns hown hch hown' hgr h5 HOSc HV HVO hwb
    refine ⟨_, rfl, hK.out _ _ (hHi) (fun hH => ?_)⟩
    clear hK K
    try go_frame
    refine tr 17 (fun K hK => ?_)
    refine want_yes (by rfl) (call_enter (f := 281) (args := #[.agg #[], .agg #[J g0, J g1, J g2, J g3, .slice g4.1 g4.2.1 g4.2.2, J g5], J gk]) (by kernel_rfl) (Class_with g0 g1 g2 g3 g4 g5 gk _) (fun e uw he => ?_))
    obtain ⟨rfl, hbw⟩ := he
    have HOSn := OwnSt.on HOSk.out hbw
    clear HOSk
    have HOSk : Hid _ := HOSn
    clear HOSn
    refine ⟨_, rfl, hK.out _ _ (hH.on hbw) (fun hH => ?_)⟩
    clear hK K
    try go_frame
    first | refine tr 18 (fun K hK => ?_) | refine ts 18 (fun K hK => ?_)
    refine want_yes (by rfl) (wp_store_mid 61 _ _ rfl (w.heap.size + 1 + 1 + 1) 0 #[J g0, J g1, J g2, J g3, J gk, J g5] rfl rfl (hH.there 0 rfl) infoSta (by simp [Value.oneCell']) ?_)
    obtain ⟨u6, hu6⟩ : ∃ u6, u6 = uw.setCells (w.heap.size + 1 + 1 + 1) 0 [J g0, J g1, J g2, J g3, J gk, J g5] := ⟨_, rfl⟩
    have HT6 := hH.there 0 (b := w.heap.size + 1 + 1 + 1) rfl
    have HB6 : Hid (Below w.heap.size w u6) := by rw [Hid, hu6]; exact below_setCells hH.below (by omega)
    have HRG6 : Hid (u6.rangeAt (w.heap.size + 1 + 1 + 1) 0 [J g0, J g1, J g2, J g3, J gk, J g5]) := by rw [Hid, hu6]; exact World.rangeAt_setCells_same _ _ _ _ HT6
    have HO6 : Hid (OwnSt (Lo A w) w u6 (J g0) (J g1) (J g2) (J g3) (J gk) (J g5) (withLClass x (x.2.2.2.2.1.take i ++ o :: x.2.2.2.2.1.drop i))) := by (have hb6 := HB6.out; rw [hu6] at hb6; rw [Hid, hu6]; exact HOSk.out.kept hb6 (kept_setCells (fun h => by rcases h with h | h; exact absurd h.2 (by omega); have := HBK.out _ h; omega)))
    refine at_world hu6 ?_
    refine hK.out _ _ (by rw [hu6]; exact hH.wrote 0 rfl (fun z hz => by have := HD3.out; simp only [List.mem_cons, List.not_mem_nil, or_false] at hz; rcases hz with rfl | rfl | rfl | rfl <;> simp <;> omega)) (fun hH2 => ?_)
    clear hu6 HT6 HOSk HBK
    clear hK K hH; have hH := hH2; clear hH2
    try go_frame
    refine tp 19 ?_; try go_frame
    refine tp 20 ?_; try go_frame
   all_goals
    refine tz ?_
    go_wp2_with fail
    refine bodyPost_ret (v := .tuple #[.agg #[J g0, J g1, J g2, J g3, J gk, J g5], .bool false, .int .i64 0]) (res_cell3 (p := 6) (q := 7) (r := 8) (ty := 61) rfl _ _ (w.heap.size + 1 + 1 + 1) [J g0, J g1, J g2, J g3, J gk, J g5] _ _ _ rfl rfl rfl HRG6.out underlying61 rfl infoSta) rfl ⟨g0, g1, g2, g3, gk, g5, by rw [HP.out], by rw [HP.out]; exact HO6.out, HB6.out⟩
end Go.Proofs.YtfbnnfpnjjjfcaaGreat

