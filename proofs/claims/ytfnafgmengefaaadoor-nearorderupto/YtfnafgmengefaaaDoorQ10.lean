/- domains.here, wish.count, tally.matters, tally.first. Condition: the arguments lie as is said of them. Structs that lie in memory, whatever their cells: read and written whole; results that are structs; what stays. Plain laws of the model's worlds. No condition. A struct variable written over as a whole. Plain facts on worlds. No condition. slices.Clone and maps.Clone: rows and maps of one's own. Condition: what is cloned lies as is said of it. wish.clone gives a term and a map of its own. Condition: the wish lies as is said of it. -/
import Derived.Test.YtfnafgmengefaaaDoorQ09
import Derived.Test.YtfnafgmengefaaaDoorQ03
import Derived.Deep.MidRow
import Derived.Test.YtfnafgmengefaaaDoorQ08
import Derived.Shelf.SlMaps.Clone
namespace Go.Proofs.YtfnafgmengefaaaDoor
open Go.RowKit Go.Maps
set_option linter.unusedSimpArgs false
set_option maxRecDepth 100000

set_option maxHeartbeats 2000000 in
theorem dhere_calls {w : World} {mb N : Nat} {f : Lab → Int} (hc : Hid (CntAt w mb N f)) (a : Option Addr) (n cap : Nat) (A : Where) (L : List Lab) (key : ByteArray) (hL : Hid (SlAt RLabel 2 32 A w a n cap L)) (hk : key.size ≤ 140737488355328) :
    Calls Tryd.prog 48 #[.map (some mb), .slice a n cap, .string key] w fun e w' => e = .returned (.bool ((getL L key).2 && decide (0 < f (domL L key)))) ∧ Below w.heap.size w w' := by
  have hD := domain_calls a n cap A L key w hL
  have HO : Hid ((getL L key).2 = true → okL (domL L key)) := dom_ok hk (sl_okL hL.out)
  obtain ⟨b, hb⟩ : ∃ b, decide (0 < f (domL L key)) = b := ⟨_, rfl⟩
  have HBb : Hid (0 < f (domL L key) ↔ b = true) := by rw [Hid, ← hb]; simp
  rw [hb]
  simp only [domL] at HO HBb ⊢
  clear hL hb
  generalize (getL L key).1 = v at hD HO HBb
  generalize (getL L key).2 = t at hD HO ⊢
  have HC : Hid (t = true → ∀ u, Below w.heap.size w u → (Instr.lookup 49 (.map (some mb)) (.agg #[.string key, .string v]) false).run Tryd.prog u = .ok (.int .i64 (f (key, v))) u) := fun ht u hb => (hc.out.on hb).look _ Tryd.underlying49 (HO.out ht)
  generalize f (key, v) = c at HC HBb
  clear hc HO f
  go_enter Tryd.func48, Tryd.ntmps48
  go_wp2_with fail
  refine hD.mono ?_
  clear hD
  rintro e w1 ⟨rfl, hb1⟩
  cases t
  · go_wp2_with fail
    go_ret
    exact ⟨rfl, on2 hb1 (by go_grown)⟩
  · have hlk := HC.out rfl (w1.alloc (.cells #[.string key, .string v] 62)) (on2 hb1 (by go_grown))
    clear HC
    go_wp2_with fail
    go_ret
    have h2 := HBb.out
    exact ⟨by cases b <;> simp_all, on2 hb1 (by go_grown)⟩
/-- What is read of something that is placed. -/
theorem RPlaced.reads {A : Where} {w : World} {cs : List Value} {x : PlacedD} (h : RPlaced A w cs x) : ∃ h2 h11 h16 : Hd, cs[0]? = some (.string x.1.1) ∧ cs[2]? = some (.slice h2.1 h2.2.1 h2.2.2) ∧ cs[11]? = some (.slice h11.1 h11.2.1 h11.2.2) ∧ cs[16]? = some (.slice h16.1 h16.2.1 h16.2.2) ∧ SlAt RLabel 2 32 A w h2.1 h2.2.1 h2.2.2 (pLabs x.1) ∧ SlAt RTerm 2 40 A w h11.1 h11.2.1 h11.2.2 (pApart x.1) ∧ SlAt RLabel 2 32 A w h16.1 h16.2.1 h16.2.2 x.2 := by
  obtain ⟨c, d, rfl, h1, ⟨a, n, cap, rfl, h3⟩⟩ := h
  obtain ⟨h2, h6, h7, h8, h9, h10, h11, h12, h13, rfl, _, s2, _, _, _, _, _, s11, _, _, _, _⟩ := h1.out
  exact ⟨h2, h11, (a, n, cap), rfl, rfl, rfl, rfl, s2, s11, h3⟩
theorem addF_and {g : Lab → Int} {b : Bool} {q r : Lab → Bool} {c : Int} (h : ∀ d, r d = (b && q d)) : (b = true → addF g q c = addF g r c) ∧ (b = false → ∀ d, g d = addF g r c d) := by
  refine ⟨fun e => ?_, fun e => addF_none (fun d => by rw [h d, e]; rfl)⟩
  funext d
  unfold addF
  rw [h d, e]
  rfl
set_option maxHeartbeats 4000000 in
theorem wcount_calls {w : World} {mb N : Nat} {g : Lab → Int} (hc : Hid (CntAt w mb N g)) (hN : N < 70368744177664) (b1 : Option Addr) (b2 b3 : Nat) (A : Where) (R : List Ask) (key : ByteArray) (cs : List Value) (x : PlacedD) (by_ : Int) (hx : Hid (RPlaced A w cs x)) (hr : Hid (SlAt RReq 3 48 A w b1 b2 b3 R)) (hk : key.size ≤ 140737488355328) (hby : by_ = 1 ∨ by_ = -1) :
    Calls Tryd.prog 29 #[.agg #[.slice b1 b2 b3, .string key, .map (some mb)], .agg cs.toArray, .int .i64 by_] w fun e w' => e = .returned (.tuple #[]) ∧ CntAt w' mb (N + 1) (addF g (hT (R, key) x) by_) ∧ Turns (fun b => b = mb) w w' := by
  obtain ⟨⟨a2, n2, m2⟩, _, ⟨a16, n16, m16⟩, _, e2, _, e16, s2, _, s16⟩ := hx.out.reads
  simp only at e2 e16 s2 s16
  have HAd := addF_and (g := g) (b := matchL (pLabs x.1) R) (q := atD x.2 key) (r := hT (R, key) x) (c := by_) (fun d => rfl)
  obtain ⟨W2, hW2⟩ : ∃ W, W = (w.alloc (.cells #[.slice b1 b2 b3, .string key, .map (some mb)] 80)).alloc (.cells cs.toArray 41) := ⟨_, rfl⟩
  have B2 : Below w.heap.size w W2 := by rw [hW2]; go_grown
  have q0 : BoxL W2 w.heap.size [.slice b1 b2 b3, .string key, .map (some mb)] := by rw [hW2]; exact (BoxL.new w 80 _).on ((Below.refl _ _).alloc (Nat.le_refl _) _)
  have q1 : BoxL W2 (w.heap.size + 1) cs := by have h1 := BoxL.new (w.alloc (.cells #[.slice b1 b2 b3, .string key, .map (some mb)] 80)) 41 cs; rw [hW2]; simpa using h1
  have HM := Match_sl a2 n2 m2 A (pLabs x.1) b1 b2 b3 A R W2 (s2.on RLabel.firm B2) (hr.out.on RReq.firm B2)
  have HQ : Hid (∀ u, Below W2.heap.size W2 u → BoxL u w.heap.size [.slice b1 b2 b3, .string key, .map (some mb)] ∧ BoxL u (w.heap.size + 1) cs ∧ CntAt u mb N g ∧ SlAt RLabel 2 32 A u a16 n16 m16 x.2 ∧ Below w.heap.size w u) := fun u hb => ⟨q0.on hb, q1.on hb, (hc.out.on B2).on hb, (s16.on RLabel.firm B2).on RLabel.firm hb, on2 B2 hb⟩
  have c0 := (q0.2 0 _ rfl).1
  have c2 := (q1.2 2 _ e2).1
  have HE : Hid (cs[16]? = some (.slice a16 n16 m16)) := e16
  clear hc hx hr s2 s16 q0 q1 B2 e2 e16
  generalize addF g (hT (R, key) x) by_ = g' at HAd ⊢
  have HA2 : Hid ((matchL (pLabs x.1) R = true → addF g (atD x.2 key) by_ = g') ∧ (matchL (pLabs x.1) R = false → ∀ d, g d = g' d)) := HAd
  clear HAd
  generalize matchL (pLabs x.1) R = t at HM HA2
  go_enter Tryd.func29, Tryd.ntmps29
  go_upto_region 1 with fail
  rw [← hW2]
  clear hW2
  go_wp2_with fail
  refine HM.mono ?_
  clear HM c0 c2
  rintro e w3 ⟨rfl, hb3⟩
  obtain ⟨k0, k1, k2, k3, k4⟩ := HQ.out w3 hb3
  cases t
  · have HC : Hid (CntAt w3 mb (N + 1) g' ∧ Below w.heap.size w w3) := ⟨(k2.mono (Nat.le_succ _)).as (HA2.out.2 rfl), k4⟩
    clear HQ HA2 k0 k1 k2 k3 k4 hb3
    go_wp2_with fail
    go_end0
    exact ⟨rfl, HC.out.1, Turns.below HC.out.2⟩
  · have HD := dcount_calls (w := w3) k2 hN a16 n16 m16 A x.2 key by_ k3 hk hby
    rw [HA2.out.1 rfl] at HD
    have z1 := (k0.2 1 _ rfl).1
    have z2 := (k0.2 2 _ rfl).1
    have z16 := (k1.2 16 _ HE.out).1
    have HB : Hid (Below w.heap.size w w3) := k4
    clear HQ HA2 k0 k1 k2 k3 k4 hb3 HE
    go_wp2_with fail
    refine HD.mono ?_
    rintro e w4 ⟨rfl, hc4, ht4⟩
    have HC4 : Hid (CntAt w4 mb (N + 1) g' ∧ Turns (fun b => b = mb) w w4) := ⟨hc4, (Turns.below HB.out).trans ht4⟩
    clear hc4 ht4 HD
    go_wp2_with fail
    go_end0
    exact ⟨rfl, HC4.out⟩
end Go.Proofs.YtfnafgmengefaaaDoor
namespace Go.Proofs.YtfnafgmengefaaaDoor
open Go.RowKit
set_option linter.unusedSimpArgs false

theorem range_new {u : World} {T : TypeId} {b o : Nat} {p c q : List Value} (hb : u.heap.size = b) (ho : p.length = o) : (u.alloc (.cells (p ++ (c ++ q)).toArray T)).rangeAt b o c := by
  subst hb ho
  intro j v hj
  have : (u.alloc (.cells (p ++ (c ++ q)).toArray T)).heap[u.heap.size]? = some (.cells (p ++ (c ++ q)).toArray T) := heap_new u _ _ rfl
  generalize u.alloc (.cells (p ++ (c ++ q)).toArray T) = u' at this ⊢
  have hl : j < c.length := (List.getElem?_eq_some_iff.1 hj).1
  simp only [World.cell?, this]
  rw [List.getElem?_toArray, List.getElem?_append_right (by omega), show p.length + j - p.length = j by omega, List.getElem?_append_left hl]
  exact hj
theorem range_all {u : World} {T : TypeId} {b : Nat} {c : List Value} (hb : u.heap.size = b) : (u.alloc (.cells c.toArray T)).rangeAt b 0 c := by
  have := range_new (u := u) (T := T) (p := []) (c := c) (q := []) hb rfl
  simpa using this
theorem there_new {u : World} {T : TypeId} {b n : Nat} {c : Array Value} (hb : u.heap.size = b) (hn : c.size = n) : (u.alloc (.cells c T)).there b 0 n := by
  subst hb hn
  intro j hj
  have : (u.alloc (.cells c T)).heap[u.heap.size]? = some (.cells c T) := heap_new u _ _ rfl
  generalize u.alloc (.cells c T) = u' at this ⊢
  simp [World.cell?, World.frozen?, this, hj]
theorem range_on {w w' : World} {B b o : Nat} {c : List Value} (h : w.rangeAt b o c) (hb : Below B w w') (hB : b < B) : w'.rangeAt b o c := fun j v hj => (hb.cell (p := ⟨b, o + j, none⟩) hB).trans (h j v hj)
theorem there_on {w w' : World} {B b o n : Nat} (h : w.there b o n) (hb : Below B w w') (hB : b < B) : w'.there b o n := fun j hj => by
  rw [hb.cell (p := ⟨b, o + j, none⟩) hB, hb.frozen (p := ⟨b, o + j, none⟩) hB]; exact h j hj
theorem below_setCells {B b : Nat} {a : World} : ∀ {vs : List Value} {o : Nat} {u : World}, Below B a u → B ≤ b → Below B a (u.setCells b o vs)
  | [], _, _, h, _ => h
  | v :: r, o, u, h, hb => by
    rw [World.setCells]
    exact below_setCells (h.setCell (p := ⟨b, o, none⟩) hb v) hb
theorem size_setCells {b : Nat} : ∀ {vs : List Value} {o : Nat} {u : World}, (u.setCells b o vs).heap.size = u.heap.size
  | [], _, _ => rfl
  | v :: r, o, u => by rw [World.setCells, size_setCells]; simp
theorem kept_setCells {A : Where} {b : Nat} (h : ¬ A b) : ∀ {vs : List Value} {o : Nat} {u : World}, Kept A u (u.setCells b o vs)
  | [], _, u => Kept.refl A u
  | v :: r, o, u => by
    rw [World.setCells]
    exact (Kept.set (p := ⟨b, o, none⟩) h v).trans (kept_setCells h)

/-- One result, a struct that lies in memory. -/
theorem res_cell {P : Program} {fn : Func} {p : Tmp} {ty : TypeId} (h : fn.results = #[.cell p ty]) (tmps : Array Value) (w : World) (b : Nat) (cs : List Value) (d : TypeDesc)
    (hp : tmps.getD p undef = .pointer (some ⟨b, 0, none⟩)) (hr : w.rangeAt b 0 cs) (hu : P.underlying ty = some d) (hd : d.isRow = true) (hi : (P.info? ty).map (·.size) = some cs.length) :
    (results fn tmps).run P w = .ok (.agg cs.toArray) w := by
  have hp' : tmps[p]?.getD undef = .pointer (some ⟨b, 0, none⟩) := by simpa using hp
  simp [results, h, hp', asAddr, run_loadVar_mid w b 0 ty cs d hr hu hd hi]
/-- Two results, the first a struct that lies in memory. -/
theorem res_cell2 {P : Program} {fn : Func} {p q : Tmp} {ty : TypeId} (h : fn.results = #[.cell p ty, .tmp q]) (tmps : Array Value) (w : World) (b : Nat) (cs : List Value) (d : TypeDesc) (y : Value)
    (hp : tmps.getD p undef = .pointer (some ⟨b, 0, none⟩)) (hq : tmps.getD q undef = y) (hr : w.rangeAt b 0 cs) (hu : P.underlying ty = some d) (hd : d.isRow = true) (hi : (P.info? ty).map (·.size) = some cs.length) :
    (results fn tmps).run P w = .ok (.tuple #[.agg cs.toArray, y]) w := by
  have hp' : tmps[p]?.getD undef = .pointer (some ⟨b, 0, none⟩) := by simpa using hp
  have hq' : tmps[q]?.getD undef = y := by simpa using hq
  simp [results, h, hp', hq', asAddr, run_loadVar_mid w b 0 ty cs d hr hu hd hi]
/-- Three results, the first a struct that lies in memory. -/
theorem res_cell3 {P : Program} {fn : Func} {p q r : Tmp} {ty : TypeId} (h : fn.results = #[.cell p ty, .tmp q, .tmp r]) (tmps : Array Value) (w : World) (b : Nat) (cs : List Value) (d : TypeDesc) (y z : Value)
    (hp : tmps.getD p undef = .pointer (some ⟨b, 0, none⟩)) (hq : tmps.getD q undef = y) (hz : tmps.getD r undef = z) (hr : w.rangeAt b 0 cs) (hu : P.underlying ty = some d) (hd : d.isRow = true) (hi : (P.info? ty).map (·.size) = some cs.length) :
    (results fn tmps).run P w = .ok (.tuple #[.agg cs.toArray, y, z]) w := by
  have hp' : tmps[p]?.getD undef = .pointer (some ⟨b, 0, none⟩) := by simpa using hp
  have hq' : tmps[q]?.getD undef = y := by simpa using hq
  have hz' : tmps[r]?.getD undef = z := by simpa using hz
  simp [results, h, hp', hq', hz', asAddr, run_loadVar_mid w b 0 ty cs d hr hu hd hi]
end Go.Proofs.YtfnafgmengefaaaDoor
namespace Go.Proofs.YtfnafgmengefaaaDoor
open Go.RowKit
set_option linter.unusedSimpArgs false

theorem wpl_w8 {P : Program} {ops : Array Oper} {Q : Exit → Act → World → Prop} {rest : List Oper} {a : Act} {u W : World} (h : W = u) (k : wpList P ops Q rest a W) : wpList P ops Q rest a u := h ▸ k
theorem box_over8 {u : World} {D : Nat} {zs cs : List Value} (hb : BoxL u D zs) (hl : zs.length = cs.length) : BoxL (u.setCells D 0 cs) D cs := by
  have hth : u.there D 0 cs.length := hl ▸ hb.there
  have hr := World.rangeAt_setCells_same u D 0 cs hth
  have ht2 := World.there_setCells hth D 0 cs
  refine ⟨Nat.lt_of_lt_of_le hb.1 (kept_setCells (A := fun _ => False) (b := D) (fun h => h) (vs := cs) (o := 0) (u := u)).1, fun j v hj => ?_⟩
  have h1 := hr j v hj
  have h2 := (ht2 j (List.getElem?_eq_some_iff.1 hj).1).2
  rw [Nat.zero_add] at h1 h2
  exact ⟨h1, h2⟩
end Go.Proofs.YtfnafgmengefaaaDoor
namespace Go.Proofs.YtfnafgmengefaaaDoor
open Go.RowKit Go.Maps
set_option linter.unusedSimpArgs false
set_option maxRecDepth 100000

def Lo8 (A : Where) (w : World) : Where := fun b => A b ∧ b < w.heap.size
theorem sl_none8 {α : Type} [Inhabited α] {R : Rep α} {k bytes : Nat} {A : Where} {w : World} {n cap : Nat} {L : List α} (h : SlAt R k bytes A w none n cap L) : n = 0 ∧ cap = 0 ∧ L = [] := by
  obtain ⟨h1, h2, h3, _, _⟩ := h
  have := h3 rfl
  subst this
  obtain rfl : n = 0 := by omega
  exact ⟨rfl, rfl, List.length_eq_zero_iff.1 h1⟩
theorem infkLabel : (Tryd.prog.info? 62).map (fun i => (i.zero, i.size, i.bytes)) = some (some (.agg #[.string ⟨#[]⟩, .string ⟨#[]⟩]), 2, 32) := by kernel_rfl
set_option maxHeartbeats 1000000 in
theorem CloneLabel8 (a : Option Addr) (n cap : Nat) (A : Where) (L : List Lab) (w : World) (hL : SlAt RLabel 2 32 A w a n cap L) : Calls Tryd.prog 37 #[.slice a n cap] w fun e w' => ∃ v, e = .returned v ∧ Row RLabel 2 (fun _ => False) w w' 62 v L := by
  have hb0 : Below w.heap.size w (w.alloc (.cells #[] 62)) := by go_grown
  rcases a with _ | ad
  · have hE := fun w => Lib.run_eql_slice_nil (P := Tryd.prog) w 22 62 none 0 0 0 0 Tryd.underlying22
    obtain ⟨rfl, rfl, rfl⟩ := sl_none8 hL
    have HP : Hid (Row RLabel 2 (fun _ => False) w w 62 (.slice none 0 0) ([] : List Lab)) := Row.nil _ _ _
    clear hL
    go_enter Tryd.func37, Tryd.ntmps37
    go_wp2_with fail
    go_ret
    exact ⟨_, rfl, HP.out⟩
  · have hE := fun w => Lib.run_eql_slice_nil (P := Tryd.prog) w 22 62 (some ad) n cap 0 0 Tryd.underlying22
    have hL' : SlAt RLabel 2 32 (Lo8 A w) w (some ad) n cap L := hL.weak RLabel.firm (fun b hb h => ⟨h, hb⟩)
    obtain ⟨xs, hc, hcell, hone⟩ := (hL'.on RLabel.firm hb0).chunks RLabel.firm
    have hn := hL.1
    have hbb := hL.2.2.2.1
    subst hn
    have HR : Hid (Row RLabel 2 (fun _ => False) w (w.alloc (.cells #[] 62)) 62 (.slice (some ⟨w.heap.size, 0, none⟩) 0 0) ([] : List Lab)) := Row.start _ w w _ (Below.refl _ _)
    have HC : Hid (Chunks RLabel 2 (fun b => False ∧ Value.ownBlock (.slice (some ⟨w.heap.size, 0, none⟩) 0 0) ≠ some b) (w.alloc (.cells #[] 62)) xs L) := ⟨hc.1, fun i hi => by obtain ⟨cs, h1, h2⟩ := hc.2 i hi; exact ⟨cs, h1, h2⟩⟩
    have HX : Hid (∀ j y, xs[j]? = some y → (w.alloc (.cells #[] 62)).cell? (ad.add j) = some y) := hcell
    have HO : Hid (∀ y ∈ xs, y.oneCell' = true) := hone
    clear hc hcell hone hL hL'
    go_enter Tryd.func37, Tryd.ntmps37
    go_wp2_with (at_builtin; go_must (refine row_append RLabel.firm (A := (fun _ => False)) (w0 := w) rfl _ _ 22 62 rfl _ 32 infkLabel Tryd.underlying22 rfl (by decide) (by decide) _ [] rfl HR.out ad L.length cap xs L rfl rfl HC.out HX.out HO.out (by simp; omega) ?_); intro v1 w1 hrow1 hg1)
    go_ret
    exact ⟨_, rfl, by simpa using hrow1⟩
theorem infkReq : (Tryd.prog.info? 75).map (fun i => (i.zero, i.size, i.bytes)) = some (some (.agg #[.string ⟨#[]⟩, .int .i64 0, .slice none 0 0]), 3, 48) := by kernel_rfl
set_option maxHeartbeats 1000000 in
theorem CloneReq8 (a : Option Addr) (n cap : Nat) (A : Where) (L : List Ask) (w : World) (hL : SlAt RReq 3 48 A w a n cap L) : Calls Tryd.prog 71 #[.slice a n cap] w fun e w' => ∃ v, e = .returned v ∧ Row RReq 3 (Lo8 A w) w w' 75 v L := by
  have hb0 : Below w.heap.size w (w.alloc (.cells #[] 75)) := by go_grown
  rcases a with _ | ad
  · have hE := fun w => Lib.run_eql_slice_nil (P := Tryd.prog) w 26 75 none 0 0 0 0 Tryd.underlying26
    obtain ⟨rfl, rfl, rfl⟩ := sl_none8 hL
    have HP : Hid (Row RReq 3 (Lo8 A w) w w 75 (.slice none 0 0) ([] : List Ask)) := Row.nil _ _ _
    clear hL
    go_enter Tryd.func71, Tryd.ntmps71
    go_wp2_with fail
    go_ret
    exact ⟨_, rfl, HP.out⟩
  · have hE := fun w => Lib.run_eql_slice_nil (P := Tryd.prog) w 26 75 (some ad) n cap 0 0 Tryd.underlying26
    have hL' : SlAt RReq 3 48 (Lo8 A w) w (some ad) n cap L := hL.weak RReq.firm (fun b hb h => ⟨h, hb⟩)
    obtain ⟨xs, hc, hcell, hone⟩ := (hL'.on RReq.firm hb0).chunks RReq.firm
    have hn := hL.1
    have hbb := hL.2.2.2.1
    subst hn
    have HR : Hid (Row RReq 3 (Lo8 A w) w (w.alloc (.cells #[] 75)) 75 (.slice (some ⟨w.heap.size, 0, none⟩) 0 0) ([] : List Ask)) := Row.start _ w w _ (Below.refl _ _)
    have HC : Hid (Chunks RReq 3 (fun b => Lo8 A w b ∧ Value.ownBlock (.slice (some ⟨w.heap.size, 0, none⟩) 0 0) ≠ some b) (w.alloc (.cells #[] 75)) xs L) := hc.weak RReq.firm (fun b _ h => ⟨h, by simp only [Value.ownBlock, ne_eq, Option.some.injEq]; have := h.2; omega⟩)
    have HX : Hid (∀ j y, xs[j]? = some y → (w.alloc (.cells #[] 75)).cell? (ad.add j) = some y) := hcell
    have HO : Hid (∀ y ∈ xs, y.oneCell' = true) := hone
    clear hc hcell hone hL hL'
    go_enter Tryd.func71, Tryd.ntmps71
    go_wp2_with (at_builtin; go_must (refine row_append RReq.firm (A := (Lo8 A w)) (w0 := w) rfl _ _ 26 75 rfl _ 48 infkReq Tryd.underlying26 rfl (by decide) (by decide) _ [] rfl HR.out ad L.length cap xs L rfl rfl HC.out HX.out HO.out (by simp; omega) ?_); intro v1 w1 hrow1 hg1)
    go_ret
    exact ⟨_, rfl, by simpa using hrow1⟩
theorem infkStr : (Tryd.prog.info? 9).map (fun i => (i.zero, i.size, i.bytes)) = some (some (.string ⟨#[]⟩), 1, 16) := by kernel_rfl
set_option maxHeartbeats 1000000 in
theorem CloneStr8 (a : Option Addr) (n cap : Nat) (A : Where) (L : List ByteArray) (w : World) (hL : SlAt RStr 1 16 A w a n cap L) : Calls Tryd.prog 72 #[.slice a n cap] w fun e w' => ∃ v, e = .returned v ∧ Row RStr 1 (fun _ => False) w w' 9 v L := by
  have hb0 : Below w.heap.size w (w.alloc (.cells #[] 9)) := by go_grown
  rcases a with _ | ad
  · have hE := fun w => Lib.run_eql_slice_nil (P := Tryd.prog) w 31 9 none 0 0 0 0 Tryd.underlying31
    obtain ⟨rfl, rfl, rfl⟩ := sl_none8 hL
    have HP : Hid (Row RStr 1 (fun _ => False) w w 9 (.slice none 0 0) ([] : List ByteArray)) := Row.nil _ _ _
    clear hL
    go_enter Tryd.func72, Tryd.ntmps72
    go_wp2_with fail
    go_ret
    exact ⟨_, rfl, HP.out⟩
  · have hE := fun w => Lib.run_eql_slice_nil (P := Tryd.prog) w 31 9 (some ad) n cap 0 0 Tryd.underlying31
    have hL' : SlAt RStr 1 16 (Lo8 A w) w (some ad) n cap L := hL.weak RStr.firm (fun b hb h => ⟨h, hb⟩)
    obtain ⟨xs, hc, hcell, hone⟩ := (hL'.on RStr.firm hb0).chunks RStr.firm
    have hn := hL.1
    have hbb := hL.2.2.2.1
    subst hn
    have HR : Hid (Row RStr 1 (fun _ => False) w (w.alloc (.cells #[] 9)) 9 (.slice (some ⟨w.heap.size, 0, none⟩) 0 0) ([] : List ByteArray)) := Row.start _ w w _ (Below.refl _ _)
    have HC : Hid (Chunks RStr 1 (fun b => False ∧ Value.ownBlock (.slice (some ⟨w.heap.size, 0, none⟩) 0 0) ≠ some b) (w.alloc (.cells #[] 9)) xs L) := ⟨hc.1, fun i hi => by obtain ⟨cs, h1, h2⟩ := hc.2 i hi; exact ⟨cs, h1, h2⟩⟩
    have HX : Hid (∀ j y, xs[j]? = some y → (w.alloc (.cells #[] 9)).cell? (ad.add j) = some y) := hcell
    have HO : Hid (∀ y ∈ xs, y.oneCell' = true) := hone
    clear hc hcell hone hL hL'
    go_enter Tryd.func72, Tryd.ntmps72
    go_wp2_with (at_builtin; go_must (refine row_append RStr.firm (A := (fun _ => False)) (w0 := w) rfl _ _ 31 9 rfl _ 16 infkStr Tryd.underlying31 rfl (by decide) (by decide) _ [] rfl HR.out ad L.length cap xs L rfl rfl HC.out HX.out HO.out (by simp; omega) ?_); intro v1 w1 hrow1 hg1)
    go_ret
    exact ⟨_, rfl, by simpa using hrow1⟩
set_option maxHeartbeats 2000000 in
theorem dClone_calls (b : Nat) (es : Array MapEntry) (clock : Nat) (w : World) (hb : w.heap[b]? = some (.map es clock)) :
    Calls Tryd.prog 38 #[.map (some b)] w fun e w' => e = .returned (.map (some w.heap.size)) ∧ w' = w.alloc (.map es clock) := by
  have hq := fun w => run_eql_map_nil_sl (P := Tryd.prog) w 49 _ _ (some b) Tryd.underlying49
  go_enter Tryd.func38, Tryd.ntmps38
  go_wp2
  rw [run_callFunc_extern Tryd.func40 (by kernel_rfl) (by kernel_rfl) (by kernel_rfl) (e := Extern.MapsClone.clone) (by kernel_rfl), run_maps_clone_sl w 49 hb]
  simp only [Result.andThen]
  rw [Oper.upon_value]
  go_wp2
  rw [run_typeAssert_map_sl _ 49 _ _ _ _ Tryd.underlying49]
  simp only [Result.andThen]
  rw [Oper.upon_value]
  go_wp2
  go_ret
  exact ⟨rfl, rfl⟩
/-- A clone of a map tells what the map tells. -/
theorem cClone_calls {w : World} {mb N : Nat} {f : Lab → Int} (h : CntAt w mb N f) : Calls Tryd.prog 38 #[.map (some mb)] w fun e w' => e = .returned (.map (some w.heap.size)) ∧ CntAt w' w.heap.size N f ∧ w'.heap.size = w.heap.size + 1 ∧ Below w.heap.size w w' := by
  obtain ⟨D, ⟨es, ck, h1, h2⟩, h3⟩ := h
  refine (dClone_calls mb es ck w h1).mono ?_
  rintro e w' ⟨rfl, rfl⟩
  exact ⟨rfl, ⟨D, ⟨es, ck, (MapKept.heap_alloc w _).1, h2⟩, h3⟩, by simp, (Below.refl _ w).alloc (Nat.le_refl _) _⟩
end Go.Proofs.YtfnafgmengefaaaDoor
namespace Go.Proofs.YtfnafgmengefaaaDoor
open Go.RowKit Go.Maps
set_option linter.unusedSimpArgs false
set_option maxRecDepth 100000

/-- A row of what is asked, in block g; up to k each one's values are new, from k on they are old. -/
def RqAt (w0 : World) (g : Nat) (u : World) (n k : Nat) (L : List Ask) : Prop :=
  ∀ i, i < n → ∃ h : Hd, (u.cell? ⟨g, i * 3, none⟩ = some (.string (L.getD i default).1) ∧ u.cell? ⟨g, i * 3 + 1, none⟩ = some (.int .i64 (L.getD i default).2.1) ∧ u.cell? ⟨g, i * 3 + 2, none⟩ = some (.slice h.1 h.2.1 h.2.2)) ∧ u.frozen? ⟨g, i * 3 + 2, none⟩ = false ∧
    SlAt RStr 1 16 (if i < k then (fun b => Fresh w0 b ∧ b ≠ g) else (fun b => b < w0.heap.size)) u h.1 h.2.1 h.2.2 (L.getD i default).2.2 ∧ (L.getD i default).1.size ≤ 140737488355328
theorem frozen_on {u u' : World} {B : Nat} (hb : Below B u u') {p : Addr} (hp : p.block < B) : u'.frozen? p = u.frozen? p := by
  unfold World.frozen?
  rw [hb.block p.block hp]
theorem frozen_other {u : World} {p q : Addr} {v : Value} (h : q.block ≠ p.block) : (u.setCell p v).frozen? q = u.frozen? q := by
  unfold World.frozen?
  rw [Below.heap_setCell u p v q.block h]
theorem RqAt.on {w0 u u' : World} {g n k : Nat} {L : List Ask} (h : RqAt w0 g u n k L) (hb : Below u.heap.size u u') (hg : 0 < n → g < u.heap.size) : RqAt w0 g u' n k L := fun i hi => by
  obtain ⟨hd, ⟨c0, c1, c2⟩, f2, s, z⟩ := h i hi
  have hg' := hg (by omega)
  exact ⟨hd, ⟨(hb.cell (p := ⟨g, i * 3, none⟩) hg').trans c0, (hb.cell (p := ⟨g, i * 3 + 1, none⟩) hg').trans c1, (hb.cell (p := ⟨g, i * 3 + 2, none⟩) hg').trans c2⟩, (frozen_on hb (p := ⟨g, i * 3 + 2, none⟩) hg').trans f2, s.on RStr.firm hb, z⟩
theorem RqAt.set {w0 u : World} {g n k : Nat} {L : List Ask} (h : RqAt w0 g u n k L) (hk : k < n) (hg0 : w0.heap.size ≤ g) {a : Option Addr} {m c : Nat} (hs : SlAt RStr 1 16 (fun b => Fresh w0 b ∧ b ≠ g) u a m c (L.getD k default).2.2) : RqAt w0 g (u.setCell ⟨g, k * 3 + 2, none⟩ (.slice a m c)) n (k + 1) L := fun i hi => by
  obtain ⟨hd, ⟨c0, c1, c2⟩, f2, s, z⟩ := h i hi
  have fz : ∀ j, (u.setCell ⟨g, k * 3 + 2, none⟩ (.slice a m c)).frozen? ⟨g, j, none⟩ = u.frozen? ⟨g, j, none⟩ := fun j => World.frozen?_setCell _ _ _ _
  have ce : ∀ j, j ≠ k * 3 + 2 → (u.setCell ⟨g, k * 3 + 2, none⟩ (.slice a m c)).cell? ⟨g, j, none⟩ = u.cell? ⟨g, j, none⟩ := fun j hj => World.cell?_setCell_other (h := fun e => hj (congrArg Addr.off e).symm) ..
  by_cases hik : i = k
  · subst hik
    refine ⟨(a, m, c), ⟨(ce _ (by omega)).trans c0, (ce _ (by omega)).trans c1, World.cell?_setCell_same (h := c2) ..⟩, (fz _).trans f2, ?_, z⟩
    rw [if_pos (Nat.lt_succ_self _)]
    exact hs.kept RStr.firm (Kept.set (fun k => k.2 rfl) _)
  · refine ⟨hd, ⟨(ce _ (by omega)).trans c0, (ce _ (by omega)).trans c1, (ce _ (by omega)).trans c2⟩, (fz _).trans f2, ?_, z⟩
    by_cases h1 : i < k
    · rw [if_pos h1] at s
      rw [if_pos (by omega)]
      exact s.kept RStr.firm (Kept.set (fun k => k.2 rfl) _)
    · rw [if_neg h1] at s
      rw [if_neg (by omega)]
      exact s.kept RStr.firm (Kept.set (p := ⟨g, k * 3 + 2, none⟩) (fun (h : g < w0.heap.size) => absurd h (Nat.not_lt.2 hg0)) _)
theorem RqAt.sl {w0 u : World} {g n cap : Nat} {L : List Ask} (h : RqAt w0 g u n n L) (hl : L.length = n) (hc : n ≤ cap) (hb : n * 48 ≤ 140737488351232) (hg0 : w0.heap.size ≤ g) (hg : g < u.heap.size) : SlAt RReq 3 48 (Fresh w0) u (some ⟨g, 0, none⟩) n cap L := by
  refine ⟨hl, hc, (fun e => by cases e), hb, fun _ => ⟨g, 0, rfl, hg, hg0, fun i hi => ?_⟩⟩
  obtain ⟨hd, ⟨c0, c1, c2⟩, _, s, z⟩ := h i hi
  rw [if_pos hi] at s
  refine ⟨_, RReq.mk (h2 := hd) z (s.weak RStr.firm (fun b _ h => h.1)), fun j v hj => ?_⟩
  rw [Nat.zero_add]
  match j, hj with
  | 0, hj => simp at hj; subst hj; exact c0
  | 1, hj => simp at hj; subst hj; exact c1
  | 2, hj => simp at hj; subst hj; exact c2
theorem rq_of_row {A : Where} {w0 u : World} {g cap : Nat} {L : List Ask} (h : Row RReq 3 (Lo8 A w0) w0 u 75 (.slice (some ⟨g, 0, none⟩) L.length cap) L) : RqAt w0 g u L.length 0 L ∧ w0.heap.size ≤ g ∧ g < u.heap.size ∧ L.length ≤ cap := by
  obtain ⟨xs, h1, hc⟩ := h
  rcases own_cells h1.2 with ⟨e, _⟩ | ⟨g', cap', e, hcp, hB, hg, hcell⟩
  · cases e
  · injection e with e1 e2 e3
    injection e1 with e1
    obtain rfl : g = g' := by injection e1
    subst e3
    refine ⟨fun i hi => ?_, hB, hg, hcp⟩
    obtain ⟨cs, hr, hx⟩ := hc.2 i hi
    obtain ⟨hd, rfl, hz, hs⟩ := hr.out
    have hlt : ∀ j, j < 3 → i * 3 + j < L.length * 3 := fun j hj => by omega
    have e0 := hcell (i * 3) (by have := hlt 0 (by omega); omega)
    have e1' := hcell (i * 3 + 1) (hlt 1 (by omega))
    have e2' := hcell (i * 3 + 2) (hlt 2 (by omega))
    have x0 := hx 0 (by omega)
    rw [Nat.add_zero] at x0
    refine ⟨hd, ⟨e0.1.trans x0, e1'.1.trans (hx 1 (by omega)), e2'.1.trans (hx 2 (by omega))⟩, e2'.2, ?_, hz⟩
    rw [if_neg (Nat.not_lt_zero _)]
    exact hs.weak RStr.firm (fun b _ h => h.1.2)
end Go.Proofs.YtfnafgmengefaaaDoor
