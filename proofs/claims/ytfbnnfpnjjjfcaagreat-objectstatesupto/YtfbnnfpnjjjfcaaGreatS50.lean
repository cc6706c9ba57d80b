/- ObjectStates' walk, and its like. No condition beyond what each says. -/
import Derived.Deep.Slices
import Derived.Deep.Strs
import Derived.SizedLaws
import Derived.Test.YtfbnnfpnjjjfcaaGreatRows
import Derived.Test.YtfbnnfpnjjjfcaaGreatS45
import Derived.Test.YtfbnnfpnjjjfcaaGreatS46
import Derived.Test.YtfbnnfpnjjjfcaaGreatS48
import Derived.Test.YtfbnnfpnjjjfcaaGreatS49
namespace Go.Proofs.YtfbnnfpnjjjfcaaGreat
set_option maxHeartbeats 16000000
set_option maxRecDepth 100000
open _root_.Go.Proofs.Tryz Go.RowKit
set_option linter.unusedSimpArgs false
theorem states_walk (ss : List Value) (x : StateD) (w : World) (h : RState (fun _ => True) w ss x) (hf : FitsO x) : Calls prog 4 #[.agg ss.toArray] w fun e w' => e = .returned (.bool true) ∧ Below w.heap.size w w' := by
 have hi : (prog.info? 61).map (·.size) = some ss.length := by rw [RState.firm.len h]; exact infoSta
 have HX : Hid (RState (fun _ => True) w ss x) := h
 have HFo : Hid (FitsO x) := hf
 obtain ⟨U0, hU0⟩ : ∃ U0, U0 = w.alloc (.cells ss.toArray 61) := ⟨_, rfl⟩
 have HH0 : Hid (Held w [(w.heap.size, ss)] [] U0) := by rw [Hid, hU0]; exact (Held.start w).push rfl ss _
 have HR0 : Hid (U0.rangeAt w.heap.size 0 ss) := HH0.out.get 0 rfl
 clear h hf
 go_enter func4, ntmps4
 go_upto_region 1 with fail
 rw [← hU0]
 clear hU0
 go_wp2_with (first | (refine BigFrame.wpList_want rfl (fun _ hKK => wp_load_mid 61 _ rfl (w.heap.size) 0 rfl ss _ HR0.out underlying61 rfl hi (hKK _ _ ?_))) | fail)
 refine (State_copy ss _ x U0 (RState.firm.kept HX.out (Kept.below HH0.out.below))).mono ?_
 rintro e u1 ⟨ds, rfl, hd, hb1⟩
 have hid : (prog.info? 61).map (·.size) = some ds.length := by rw [RState.firm.len hd]; exact infoSta
 have hida : (prog.info? 61).map (·.size) = some ds.toArray.size := by simpa using hid
 have hod : ds.toArray.all (·.oneCell') = true := all_oneCell_toArray (RState.firm.one hd)
 have HH1 := HH0.out.on hb1
 obtain ⟨U2, hU2⟩ : ∃ U, U = u1.alloc (.cells #[Z, Z, Z, Z, Z, Z] 61) := ⟨_, rfl⟩
 have HM2 : Held w [(w.heap.size, ss)] [(u1.heap.size, 6)] U2 := by rw [hU2]; exact HH1.room rfl #[Z, Z, Z, Z, Z, Z] _
 obtain ⟨U3, hU3⟩ : ∃ U, U = U2.setCells u1.heap.size 0 ds := ⟨_, rfl⟩
 have hDw : w.heap.size < u1.heap.size := HH1.lt 0 rfl
 have hl6 := RState.firm.len hd
 have HH3 : Hid (Held w [(u1.heap.size, ds), (w.heap.size, ss)] [] U3) := by rw [Hid, hU3]; exact HM2.store hl6 (fun z hz => by simp only [List.mem_cons, List.not_mem_nil, or_false] at hz; subst hz; simp; omega)
 have HT : Hid (U2.there u1.heap.size 0 ds.toArray.size) := there_sub (HM2.there 0 rfl) (by simp [hl6])
 have HD3 : Hid (RState (fun _ => True) U3 ds x) := by
  rw [Hid, hU3, hU2]
  refine RState.firm.weak (RState.firm.kept (RState.firm.weak hd (A' := fun b => b ≠ u1.heap.size) (fun b hb _ => by omega)) (Kept.below (below_setCells ((Below.refl _ u1).alloc (Nat.le_refl _) _) (Nat.le_refl _)))) (fun _ _ _ => trivial)
 have HU3 : Hid (U3 = _) := hU3.trans (by rw [hU2])
 rw [hU2] at HT
 clear hd hb1 HH0 HR0 HH1 HM2 hU2 hU3 hDw hl6
 go_wp2_with (first | (refine wpList_store_mid rfl 61 _ _ rfl u1.heap.size 0 ds.toArray rfl rfl HT.out hida hod ?_; refine wpl_at HU3.out ?_) | fail)
 clear HT HU3
 generalize u1.heap.size = D at HH3 ⊢
 obtain ⟨c, hc⟩ : ∃ c, checkS x = c := ⟨_, rfl⟩
 have HK : Hid (∀ u, Below U3.heap.size U3 u → Calls prog 16 #[.agg ds.toArray] u fun e w' => e = .returned (.int .i64 c) ∧ Below u.heap.size u w') := fun u hu => by rw [← hc]; exact CheckState_calls ds _ x u (RState.firm.kept HD3.out (Kept.below hu))
 have HK2 : Hid (∀ u, Below w.heap.size w u → Calls prog 17 #[.agg ss.toArray] u fun e w' => e = .returned (.int .i64 c) ∧ Below u.heap.size u w') := fun u hu => by rw [← hc]; exact rCheckState ss _ x u (RState.firm.kept HX.out (Kept.below hu)) HFo.out
 have HS : Hid (∀ u, Below w.heap.size w u → Below U3.heap.size U3 u → Calls prog 18 #[.agg ds.toArray, .agg ss.toArray] u fun e w' => e = .returned (.bool true) ∧ Below u.heap.size u w') := fun u hu hu3 => SameState_yes ds ss _ _ x u (RState.firm.kept HD3.out (Kept.below hu3)) (RState.firm.kept HX.out (Kept.below hu))
 clear hc HX HD3 HFo
 refine t0 ((fun u => Held w [(D, ds), (w.heap.size, ss)] [] u ∧ Below U3.heap.size U3 u)) (⟨HH3.out.drew, (Below.refl _ U3).drew⟩) (fun hH => ?_)
 refine tq 0 (.agg ds.toArray) (yieldsIf_load_mid (by rfl) 61 _ rfl (D) 0 rfl ds _ (fun u hu => Held.get hu.1 0 rfl) underlying61 rfl hid) ?_ (hi := rfl)
 try go_frame
 refine tq 2 (.agg ss.toArray) (yieldsIf_load_mid (by rfl) 61 _ rfl (w.heap.size) 0 rfl ss _ (fun u hu => Held.get hu.1 1 rfl) underlying61 rfl hi) ?_ (hi := rfl)
 try go_frame
 refine tr 1 (fun K hK => ?_)
 refine want_yes (by rfl) (call_enter (f := 16) (args := #[.agg ds.toArray]) (by kernel_rfl) (HK.out _ hH.2) (fun e v1 he => ?_))
 obtain ⟨rfl, hb_v1⟩ := he
 refine ⟨_, rfl, hK.out _ _ (⟨hH.1.on hb_v1, on2 hH.2 hb_v1⟩) (fun hH => ?_)⟩
 clear hK K
 try go_frame
 refine tr 3 (fun K hK => ?_)
 refine want_yes (by rfl) (call_enter (f := 17) (args := #[.agg ss.toArray]) (by kernel_rfl) (HK2.out _ hH.1.below) (fun e v2 he => ?_))
 obtain ⟨rfl, hb_v2⟩ := he
 refine ⟨_, rfl, hK.out _ _ (⟨hH.1.on hb_v2, on2 hH.2 hb_v2⟩) (fun hH => ?_)⟩
 clear hK K
 try go_frame
 refine tp 4 ?_; try go_frame
 refine tp 5 ?_; try go_frame
 refine tq 6 (.agg ds.toArray) (yieldsIf_load_mid (by rfl) 61 _ rfl (D) 0 rfl ds _ (fun u hu => Held.get hu.1 0 rfl) underlying61 rfl hid) ?_ (hi := rfl)
 try go_frame
 refine tq 7 (.agg ss.toArray) (yieldsIf_load_mid (by rfl) 61 _ rfl (w.heap.size) 0 rfl ss _ (fun u hu => Held.get hu.1 1 rfl) underlying61 rfl hi) ?_ (hi := rfl)
 try go_frame
 refine tr 8 (fun K hK => ?_)
 refine want_yes (by rfl) (call_enter (f := 18) (args := #[.agg ds.toArray, .agg ss.toArray]) (by kernel_rfl) (HS.out _ hH.1.below hH.2) (fun e v3 he => ?_))
 obtain ⟨rfl, hb_v3⟩ := he
 refine ⟨_, rfl, hK.out _ _ (⟨hH.1.on hb_v3, on2 hH.2 hb_v3⟩) (fun hH => ?_)⟩
 clear hK K
 try go_frame
 refine tp 9 ?_; try go_frame
 refine tp 10 ?_; try go_frame
 refine tr 11 (fun K hK => ?_)
 refine want_yes (by rfl) (call_enter (f := 14) (args := #[]) (by kernel_rfl) (works_calls _) (fun e v4 he => ?_))
 obtain ⟨rfl, hb_v4⟩ := he
 refine ⟨_, rfl, hK.out _ _ (⟨hH.1.on hb_v4, on2 hH.2 hb_v4⟩) (fun hH => ?_)⟩
 clear hK K
 try go_frame
 refine tp 12 ?_; try go_frame
 refine tp 13 ?_; try go_frame
 refine tz ?_
 go_wp2_with fail
 go_ret
 exact ⟨rfl, hH.1.below⟩
end Go.Proofs.YtfbnnfpnjjjfcaaGreat

namespace Go.Proofs.YtfbnnfpnjjjfcaaGreat
set_option maxHeartbeats 16000000
set_option maxRecDepth 100000
open Go.Proofs.Tryz Go.ChangeShapes Go.WideShapes Go.ChangeAt Go.RowKit
def Light {H : Type} (d : DataW H) (t : TypeId) : Prop := ∀ n ∈ d.weights prog t, n ≤ 140737488351232
theorem light_all {H : Type} {e : TypeId} : ∀ {ds : List (DataW H)} {d : DataW H}, d ∈ ds → (∀ n ∈ DataW.weightsAll prog e ds, n ≤ 140737488351232) → Light d e
 | [], _, h, _ => by simp at h
 | x :: ds, d, h, hw => by
  rcases List.mem_cons.1 h with rfl | h
  ·
   intro n hn; exact hw n (by simp [DataW.weightsAll, hn])
  ·
   exact light_all h (fun n hn => hw n (by simp [DataW.weightsAll, hn]))
theorem light_slice {H : Type} {t e : TypeId} {elems spare : List (DataW H)} (hu : prog.underlying t = some (.slice e)) (h : Light (.slice elems spare) t) : elems.length * prog.bytesOf e ≤ 140737488351232 ∧ ∀ d ∈ elems, Light d e := by
 unfold Light at h
 simp only [DataW.weights, hu, List.mem_cons, List.mem_append] at h
 refine ⟨?_, fun d hd => light_all hd (fun n hn => h n (.inr (.inl hn)))⟩
 have := h _ (.inl rfl)
 rw [Nat.add_mul] at this
 omega
theorem light_struct {H : Type} {t : TypeId} {fs : Array Field} {parts : List (DataW H)} (hu : prog.underlying t = some (.struct fs)) (h : Light (.agg parts) t) {j : Nat} {tj : TypeId} {d : DataW H} (ht : (fs.toList.map (·.type))[j]? = some tj) (hd : parts[j]? = some d) : Light d tj := by
 intro n hn
 refine h n ?_
 simp only [DataW.weights, hu]
 exact DataW.weights_mem_each ht hd n hn
theorem light_arg {H : Type} {ts : List TypeId} {ds : List (DataW H)} (h : (DataW.weightsEach prog ts ds).all (· ≤ reachBytes) = true) {j : Nat} {t : TypeId} {d : DataW H} (ht : ts[j]? = some t) (hd : ds[j]? = some d) : Light d t := by
 intro n hn
 have := List.all_eq_true.1 h _ (DataW.weights_mem_each ht hd n hn)
 have hre : reachBytes = 140737488351232 := by decide
 rw [hre] at this
 simpa using this
section
variable {H : Type} {enc : TypeId × Value → H} {W : World} {base n : Nat} {sp : Nat → Bool} {held : Bool}
theorem addr_lt {B off : Nat} {spot : Option _} {v : Value} (h : W.cell? ⟨B, off, spot⟩ = some v) : B < W.heap.size := by
 rcases Nat.lt_or_ge B W.heap.size with h2 | h2
 ·
  exact h2
 ·
  simp [World.cell?, Array.getElem?_eq_none h2] at h
theorem getD_range {α : Type} [Inhabited α] (f : Nat → α) (len i : Nat) (h : i < len) : ((List.range len).map f).getD i default = f i := by
 rw [getE _ _ (by simpa using h)]; simp
end
def Opens {α : Type} (R : Rep α) (t : TypeId) : Prop :=
 ∀ {H : Type} {enc : TypeId × Value → H} {W : World} {base n : Nat} {sp : Nat → Bool} {held : Bool} {cs : List Value} {x : DataW H × List MemPlace},
  DataW.trod enc prog W base sp held n t cs = some x → Light x.1 t → ∃ y, R (fun _ => True) W cs y
theorem opens_str : Opens RStr 9 := by
 intro H enc W base n sp held cs x h hl
 obtain ⟨s, hs, rfl, _⟩ := DataW.trod_string underlying9 h
 refine ⟨s, hs, ?_⟩
 have := hl s.data.toList.length (by simp [DataW.weights])
 simp at this
 omega
theorem opens_int : Opens RInt 3 := by
 intro H enc W base n sp held cs x h _
 obtain ⟨e, e1, _, _⟩ := DataW.trod_int underlying3 h
 exact ⟨e, e1⟩
theorem opens_bool : Opens RBool 4 := by
 intro H enc W base n sp held cs x h _
 obtain ⟨b, b1, _⟩ := DataW.trod_bool underlying4 h
 exact ⟨b, b1⟩
theorem opens_slice {α : Type} [Inhabited α] {R : Rep α} {k bytes : Nat} {t e : TypeId} (hR : Firm R k) (hu : prog.underlying t = some (.slice e)) (ck : prog.cellsOf e = k) (bk : prog.bytesOf e = bytes) (hk0 : 0 < k) (hE : Opens R e) : Opens (RSl R k bytes) t := by
 intro H enc W base n sp held cs x h hl
 rcases Go.Deep.open_slice hu h with ⟨hv, _⟩ | ⟨a, len, cap, m, nn, D, Pl, hv, _, hlc, _, hm, rfl, hel⟩
 ·
  exact ⟨[], none, 0, 0, hv, SlAt.nil _ _ _ _ (fun _ => rfl)⟩
 ·
  obtain ⟨w1, w2⟩ := light_slice hu hl
  simp only [List.length_map, List.length_range, bk] at w1
  have hml : len ≤ m := by rw [hm]; split <;> omega
  rw [ck] at hel
  have each : ∀ i, i < len → ∃ y : α, ∃ cs, R (fun _ => True) W cs y ∧ ∀ j u, cs[j]? = some u → W.cell? ((a.add (i * k)).add j) = some u := fun i hi => by
   obtain ⟨cs', h1, h2⟩ := hel i (by omega)
   obtain ⟨y, hy⟩ := hE h2 (w2 _ (List.mem_map.2 ⟨i, List.mem_range.2 hi, rfl⟩))
   obtain ⟨_, _, hcell⟩ := World.cells?_some h1
   refine ⟨y, cs', hy, fun j u hj => ?_⟩
   have hjk : j < k := by
    have := (List.getElem?_eq_some_iff.1 hj).1
    rwa [hR.len hy] at this
   rw [hcell j hjk, hj]
  obtain ⟨f, hf⟩ := Go.Deep.choose_lt each
  refine ⟨(List.range len).map f, some a, len, cap, hv, by simp, hlc, (fun h => by cases h), w1, fun hpos => ?_⟩
  obtain ⟨B, off, spot⟩ := a
  obtain ⟨cs0, hr0, hc0⟩ := hf 0 hpos
  have hex : ∃ u, cs0[0]? = some u := by
   cases e : cs0 with
   | nil => have := hR.len hr0; rw [e] at this; simp at this; omega
   | cons u r => exact ⟨u, rfl⟩
  obtain ⟨u0, hu0⟩ := hex
  have hc0 := hc0 0 u0 hu0
  have hsp : spot = none := by
   have := World.cell?_spot hc0
   simpa [Addr.add] using this
  subst hsp
  rw [add_lit, add_lit] at hc0
  refine ⟨B, off, rfl, addr_lt hc0, trivial, fun i hi => ?_⟩
  obtain ⟨cs, hr, hc⟩ := hf i hi
  refine ⟨cs, by rw [getD_range f len i hi]; exact hr, fun j u hj => ?_⟩
  have := hc j u hj
  rwa [add_lit, add_lit] at this
def OpensFs {α : Type} (fs : List Field) (off total : Nat) (R : Rep α) : Prop :=
 ∀ {H : Type} {enc : TypeId × Value → H} {W : World} {base n : Nat} {sp : Nat → Bool} {held : Bool} {cs : List Value}, cs.length = total →
  (∀ (j : Nat) (f : Field), fs[j]? = some f → ∃ d, DataW.trod enc prog W base sp held n f.type ((cs.drop f.offset).take (prog.cellsOf f.type)) = some d ∧ Light d.1 f.type) → ∃ y, R (fun _ => True) W (cs.drop off) y
theorem opensFs_last {α : Type} {R : Rep α} {f : Field} {off total : Nat} (ho : f.offset = off) (ht : off + prog.cellsOf f.type = total) (h : Opens R f.type) : OpensFs [f] off total R := by
 intro H enc W base n sp held cs hl hf
 obtain ⟨d, h1, h2⟩ := hf 0 f rfl
 rw [ho, List.take_of_length_le (by rw [List.length_drop]; omega)] at h1
 exact h h1 h2
theorem opensFs_cons {α β : Type} {R : Rep α} {S : Rep β} {f : Field} {fs : List Field} {off m total : Nat} (ho : f.offset = off) (hm : off + prog.cellsOf f.type = m) (h : Opens R f.type) (hs : OpensFs fs m total S) : OpensFs (f :: fs) off total (RPair R S) := by
 intro H enc W base n sp held cs hl hf
 obtain ⟨d, h1, h2⟩ := hf 0 f rfl
 rw [ho] at h1
 obtain ⟨y, hy⟩ := h h1 h2
 obtain ⟨z, hz⟩ := hs (cs := cs) hl (fun j g hg => hf (j + 1) g (by simpa using hg))
 refine ⟨(y, z), (cs.drop off).take (prog.cellsOf f.type), cs.drop m, ?_, hy, hz⟩
 rw [← hm, ← List.drop_drop]
 exact (List.take_append_drop _ _).symm
theorem opens_struct {α : Type} {R : Rep α} {t : TypeId} {fs : Array Field} {total : Nat} (hu : prog.underlying t = some (.struct fs)) (hc : prog.cellsOf t = total) (h : OpensFs fs.toList 0 total R) : Opens R t := by
 intro H enc W base n sp held cs x hx hl
 obtain ⟨xs, m, _, rfl, hlen, hxs, hf⟩ := DataW.trod_struct hu hx
 have := h (enc := enc) (W := W) (base := base) (n := m) (sp := sp) (held := held) (cs := cs) (by rw [hlen, hc]) (fun j f hj => by
  have hj' : fs[j]? = some f := by simpa using hj
  have h1 := hf j f hj'
  have hlt : j < xs.length := by
   have := (Array.getElem?_eq_some_iff.1 hj').1
   omega
  have h2 : xs[j]? = some xs[j] := List.getElem?_eq_getElem hlt
  rw [h2] at h1
  refine ⟨xs[j], h1, light_struct hu hl (j := j) (by simp [hj']) (by simp [h2])⟩)
 simpa using this
theorem arg_agg {P : Program} {t : TypeId} {fs : Array Field} (hu : P.underlying t = some (.struct fs)) {H : Type} {enc : TypeId × Value → H} {W : World} {base b0 : Nat} {r : Reach} {sp : Nat → Bool} {held : Bool} {v : Value} {d : DataW H} {p : List MemPlace}
  (hv : Value.okWide P W r b0 t v) (hd : DataW.Trod enc P W base sp held t v d p) : ∃ (cs : Array Value) (fuel : Nat), v = .agg cs ∧ DataW.trod enc P W base sp held fuel t cs.toList = some (d, p) := by
 obtain ⟨cs, rfl, _⟩ := okWide_struct hu hv
 obtain ⟨fuel, hf⟩ := hd
 exact ⟨cs, fuel, rfl, hf⟩
theorem opens_Label : Opens RLabel 173 := opens_struct (total := 2) underlying173 (by kernel_rfl) (opensFs_cons (m := 1) rfl (by kernel_rfl) opens_str (opensFs_last rfl (by kernel_rfl) opens_str))
theorem opens_s_str : Opens (RSl RStr 1 16) 31 := opens_slice RStr.firm underlying31 (by kernel_rfl) (by kernel_rfl) (by decide) opens_str
theorem opens_Req : Opens RReq 169 := opens_struct (total := 3) underlying169 (by kernel_rfl) (opensFs_cons (m := 1) rfl (by kernel_rfl) opens_str (opensFs_cons (m := 2) rfl (by kernel_rfl) opens_int (opensFs_last rfl (by kernel_rfl) opens_s_str)))
theorem opens_Res : Opens RRes 24 := opens_struct (total := 3) underlying24 (by kernel_rfl) (opensFs_cons (m := 1) rfl (by kernel_rfl) opens_int (opensFs_cons (m := 2) rfl (by kernel_rfl) opens_int (opensFs_last rfl (by kernel_rfl) opens_int)))
theorem opens_Taint : Opens RTaint 130 := opens_struct (total := 3) underlying130 (by kernel_rfl) (opensFs_cons (m := 1) rfl (by kernel_rfl) opens_str (opensFs_cons (m := 2) rfl (by kernel_rfl) opens_str (opensFs_last rfl (by kernel_rfl) opens_int)))
theorem opens_Bear : Opens RBear 128 := opens_struct (total := 4) underlying128 (by kernel_rfl) (opensFs_cons (m := 1) rfl (by kernel_rfl) opens_str (opensFs_cons (m := 2) rfl (by kernel_rfl) opens_str (opensFs_cons (m := 3) rfl (by kernel_rfl) opens_bool (opensFs_last rfl (by kernel_rfl) opens_int))))
theorem opens_s_Req : Opens (RSl RReq 3 48) 26 := opens_slice RReq.firm underlying26 (by kernel_rfl) (by kernel_rfl) (by decide) opens_Req
theorem opens_Term : Opens RTerm 171 := opens_struct (total := 2) underlying171 (by kernel_rfl) (opensFs_cons (m := 1) rfl (by kernel_rfl) opens_s_Req (opensFs_last rfl (by kernel_rfl) opens_str))
theorem opens_Prefer : Opens RPrefer 108 := opens_struct (total := 2) underlying108 (by kernel_rfl) (opensFs_cons (m := 1) rfl (by kernel_rfl) opens_s_Req (opensFs_last rfl (by kernel_rfl) opens_int))
theorem opens_Spread : Opens RSpread 112 := opens_struct (total := 4) underlying112 (by kernel_rfl) (opensFs_cons (m := 1) rfl (by kernel_rfl) opens_str (opensFs_cons (m := 2) rfl (by kernel_rfl) opens_int (opensFs_cons (m := 3) rfl (by kernel_rfl) opens_int (opensFs_last rfl (by kernel_rfl) opens_s_Req))))
theorem opens_s_Label : Opens (RSl RLabel 2 32) 22 := opens_slice RLabel.firm underlying22 (by kernel_rfl) (by kernel_rfl) (by decide) opens_Label
theorem opens_s_Bear : Opens (RSl RBear 4 48) 25 := opens_slice RBear.firm underlying25 (by kernel_rfl) (by kernel_rfl) (by decide) opens_Bear
theorem opens_s_Prefer : Opens (RSl RPrefer 2 32) 27 := opens_slice RPrefer.firm underlying27 (by kernel_rfl) (by kernel_rfl) (by decide) opens_Prefer
theorem opens_s_int : Opens (RSl RInt 1 8) 28 := opens_slice RInt.firm underlying28 (by kernel_rfl) (by kernel_rfl) (by decide) opens_int
theorem opens_s_Term : Opens (RSl RTerm 2 40) 29 := opens_slice RTerm.firm underlying29 (by kernel_rfl) (by kernel_rfl) (by decide) opens_Term
theorem opens_s_Spread : Opens (RSl RSpread 4 56) 30 := opens_slice RSpread.firm underlying30 (by kernel_rfl) (by kernel_rfl) (by decide) opens_Spread
theorem opens_Pod : Opens RPod 33 := opens_struct (total := 16) underlying33 (by kernel_rfl) (opensFs_cons (m := 1) rfl (by kernel_rfl) opens_str (opensFs_cons (m := 2) rfl (by kernel_rfl) opens_int (opensFs_cons (m := 3) rfl (by kernel_rfl) opens_s_Label (opensFs_cons (m := 6) rfl (by kernel_rfl) opens_Res (opensFs_cons (m := 7) rfl (by kernel_rfl) opens_s_Bear (opensFs_cons (m := 8) rfl (by kernel_rfl) opens_s_Req (opensFs_cons (m := 9) rfl (by kernel_rfl) opens_s_Prefer (opensFs_cons (m := 10) rfl (by kernel_rfl) opens_s_int (opensFs_cons (m := 11) rfl (by kernel_rfl) opens_s_Term (opensFs_cons (m := 12) rfl (by kernel_rfl) opens_s_Term (opensFs_cons (m := 13) rfl (by kernel_rfl) opens_s_Spread (opensFs_cons (m := 14) rfl (by kernel_rfl) opens_s_str (opensFs_cons (m := 15) rfl (by kernel_rfl) opens_str (opensFs_last rfl (by kernel_rfl) opens_str))))))))))))))
theorem opens_s_Taint : Opens (RSl RTaint 3 40) 34 := opens_slice RTaint.firm underlying34 (by kernel_rfl) (by kernel_rfl) (by decide) opens_Taint
theorem opens_Node : Opens RNode 36 := opens_struct (total := 9) underlying36 (by kernel_rfl) (opensFs_cons (m := 1) rfl (by kernel_rfl) opens_str (opensFs_cons (m := 2) rfl (by kernel_rfl) opens_s_Label (opensFs_cons (m := 3) rfl (by kernel_rfl) opens_s_Taint (opensFs_cons (m := 4) rfl (by kernel_rfl) opens_bool (opensFs_cons (m := 7) rfl (by kernel_rfl) opens_Res (opensFs_cons (m := 8) rfl (by kernel_rfl) opens_int (opensFs_last rfl (by kernel_rfl) opens_int)))))))
theorem opens_Volume : Opens RVolume 38 := opens_struct (total := 5) underlying38 (by kernel_rfl) (opensFs_cons (m := 1) rfl (by kernel_rfl) opens_str (opensFs_cons (m := 2) rfl (by kernel_rfl) opens_int (opensFs_cons (m := 3) rfl (by kernel_rfl) opens_str (opensFs_cons (m := 4) rfl (by kernel_rfl) opens_s_Req (opensFs_last rfl (by kernel_rfl) opens_str)))))
theorem opens_Claim : Opens RClaim 40 := opens_struct (total := 4) underlying40 (by kernel_rfl) (opensFs_cons (m := 1) rfl (by kernel_rfl) opens_str (opensFs_cons (m := 2) rfl (by kernel_rfl) opens_int (opensFs_cons (m := 3) rfl (by kernel_rfl) opens_str (opensFs_last rfl (by kernel_rfl) opens_str))))
theorem opens_Class : Opens RClass 42 := opens_struct (total := 2) underlying42 (by kernel_rfl) (opensFs_cons (m := 1) rfl (by kernel_rfl) opens_str (opensFs_last rfl (by kernel_rfl) opens_bool))
theorem opens_Budget : Opens RBudget 44 := opens_struct (total := 3) underlying44 (by kernel_rfl) (opensFs_cons (m := 1) rfl (by kernel_rfl) opens_str (opensFs_cons (m := 2) rfl (by kernel_rfl) opens_s_Req (opensFs_last rfl (by kernel_rfl) opens_int)))
end Go.Proofs.YtfbnnfpnjjjfcaaGreat

namespace Go.Proofs.YtfbnnfpnjjjfcaaGreat
set_option maxHeartbeats 16000000
set_option maxRecDepth 100000
open Go.Proofs.Tryz Go.ChangeShapes Go.WideShapes Go.ChangeAt Go.RowKit
set_option linter.unusedSimpArgs false
def sumBy {α : Type} (f : α → Nat) (L : List α) : Nat := (L.map f).sum
def OpensM {α : Type} (R : Rep α) (m : α → Nat) (t : TypeId) : Prop :=
 ∀ {H : Type} {enc : TypeId × Value → H} {W : World} {base n : Nat} {sp : Nat → Bool} {held : Bool} {cs : List Value} {x : DataW H × List MemPlace},
  DataW.trod enc prog W base sp held n t cs = some x → Light x.1 t → ∃ y, R (fun _ => True) W cs y ∧ m y ≤ Rows.uptoBulk x.1
theorem bulk_pos {H : Type} (d : DataW H) : 1 ≤ Rows.uptoBulk d := by
 match d with
 | .lit l => cases l <;> simp [Rows.uptoBulk]
 | .nil => simp [Rows.uptoBulk]
 | .ptr _ => simp [Rows.uptoBulk]
 | .slice _ _ => simp [Rows.uptoBulk]
 | .agg _ => simp [Rows.uptoBulk]
 | .iface _ _ => simp [Rows.uptoBulk]
 | .map _ => simp [Rows.uptoBulk]
 | .held _ => simp [Rows.uptoBulk]
theorem Opens.m {α : Type} {R : Rep α} {t : TypeId} (h : Opens R t) : OpensM R (fun _ => 1) t := by
 intro H enc W base n sp held cs x hx hl
 obtain ⟨y, hy⟩ := h hx hl
 exact ⟨y, hy, bulk_pos _⟩
theorem sum_bulk {α H : Type} (m : α → Nat) (f : Nat → α) (D : Nat → DataW H) : ∀ l : List Nat, (∀ i ∈ l, m (f i) ≤ Rows.uptoBulk (D i)) → sumBy m (l.map f) ≤ Rows.uptoBulkAll (l.map D)
 | [], _ => by simp [sumBy, Rows.uptoBulkAll]
 | i :: l, h => by
  have := sum_bulk m f D l (fun j hj => h j (List.mem_cons_of_mem _ hj))
  have h0 := h i List.mem_cons_self
  simp only [sumBy, List.map_cons, List.sum_cons, Rows.uptoBulkAll] at this ⊢
  omega
theorem opensM_slice {α : Type} [Inhabited α] {R : Rep α} {m : α → Nat} {k bytes : Nat} {t e : TypeId} (hR : Firm R k) (hu : prog.underlying t = some (.slice e)) (ck : prog.cellsOf e = k) (bk : prog.bytesOf e = bytes) (hk0 : 0 < k) (hE : OpensM R m e) : OpensM (RSl R k bytes) (sumBy m) t := by
 intro H enc W base n sp held cs x h hl
 rcases Go.Deep.open_slice hu h with ⟨hv, _⟩ | ⟨a, len, cap, mm, nn, D, Pl, hv, _, hlc, _, hm, rfl, hel⟩
 ·
  exact ⟨[], ⟨none, 0, 0, hv, SlAt.nil _ _ _ _ (fun _ => rfl)⟩, by simp [sumBy]⟩
 ·
  obtain ⟨w1, w2⟩ := light_slice hu hl
  simp only [List.length_map, List.length_range, bk] at w1
  have hml : len ≤ mm := by rw [hm]; split <;> omega
  rw [ck] at hel
  have each : ∀ i, i < len → ∃ y : α, (∃ cs, R (fun _ => True) W cs y ∧ ∀ j u, cs[j]? = some u → W.cell? ((a.add (i * k)).add j) = some u) ∧ m y ≤ Rows.uptoBulk (D i) := fun i hi => by
   obtain ⟨cs', h1, h2⟩ := hel i (by omega)
   obtain ⟨y, hy, hm⟩ := hE h2 (w2 _ (List.mem_map.2 ⟨i, List.mem_range.2 hi, rfl⟩))
   obtain ⟨_, _, hcell⟩ := World.cells?_some h1
   refine ⟨y, ⟨cs', hy, fun j u hj => ?_⟩, hm⟩
   have hjk : j < k := by
    have := (List.getElem?_eq_some_iff.1 hj).1
    rwa [hR.len hy] at this
   rw [hcell j hjk, hj]
  obtain ⟨f, hf⟩ := Go.Deep.choose_lt each
  refine ⟨(List.range len).map f, ⟨some a, len, cap, hv, by simp, hlc, (fun h => by cases h), w1, fun hpos => ?_⟩, ?_⟩
  ·
   obtain ⟨B, off, spot⟩ := a
   obtain ⟨cs0, hr0, hc0⟩ := (hf 0 hpos).1
   have hex : ∃ u, cs0[0]? = some u := by
    cases e : cs0 with
    | nil => have := hR.len hr0; rw [e] at this; simp at this; omega
    | cons u r => exact ⟨u, rfl⟩
   obtain ⟨u0, hu0⟩ := hex
   have hc0 := hc0 0 u0 hu0
   have hsp : spot = none := by
    have := World.cell?_spot hc0
    simpa [Addr.add] using this
   subst hsp
   rw [add_lit, add_lit] at hc0
   refine ⟨B, off, rfl, addr_lt hc0, trivial, fun i hi => ?_⟩
   obtain ⟨cs, hr, hc⟩ := (hf i hi).1
   refine ⟨cs, by rw [getD_range f len i hi]; exact hr, fun j u hj => ?_⟩
   have := hc j u hj
   rwa [add_lit, add_lit] at this
  ·
   have := sum_bulk m f D (List.range len) (fun i hi => (hf i (List.mem_range.1 hi)).2)
   simp only [Rows.uptoBulk]
   omega
def OpensFsM {α : Type} (fs : List Field) (off total : Nat) (R : Rep α) (m : α → Nat) : Prop :=
 ∀ {H : Type} {enc : TypeId × Value → H} {W : World} {base n : Nat} {sp : Nat → Bool} {held : Bool} {cs : List Value} {ds : List (DataW H)}, cs.length = total → ds.length = fs.length →
  (∀ (j : Nat) (f : Field), fs[j]? = some f → ∃ d, DataW.trod enc prog W base sp held n f.type ((cs.drop f.offset).take (prog.cellsOf f.type)) = some d ∧ Light d.1 f.type ∧ ds[j]? = some d.1) → ∃ y, R (fun _ => True) W (cs.drop off) y ∧ m y ≤ Rows.uptoBulkAll ds
theorem opensFsM_last {α : Type} {R : Rep α} {m : α → Nat} {f : Field} {off total : Nat} (ho : f.offset = off) (ht : off + prog.cellsOf f.type = total) (h : OpensM R m f.type) : OpensFsM [f] off total R m := by
 intro H enc W base n sp held cs ds hl hd hf
 obtain ⟨d, h1, h2, h3⟩ := hf 0 f rfl
 rw [ho, List.take_of_length_le (by rw [List.length_drop]; omega)] at h1
 obtain ⟨y, hy, hm⟩ := h h1 h2
 refine ⟨y, hy, ?_⟩
 cases ds with
 | nil => simp at hd
 | cons d0 r => simp at h3; subst h3; simp only [Rows.uptoBulkAll]; omega
theorem opensFsM_cons {α β : Type} {R : Rep α} {S : Rep β} {m1 : α → Nat} {m2 : β → Nat} {f : Field} {fs : List Field} {off mm total : Nat} (ho : f.offset = off) (hm : off + prog.cellsOf f.type = mm) (h : OpensM R m1 f.type) (hs : OpensFsM fs mm total S m2) : OpensFsM (f :: fs) off total (RPair R S) (fun x => m1 x.1 + m2 x.2) := by
 intro H enc W base n sp held cs ds hl hd hf
 obtain ⟨d, h1, h2, h3⟩ := hf 0 f rfl
 rw [ho] at h1
 obtain ⟨y, hy, hm1⟩ := h h1 h2
 cases ds with
 | nil => simp at hd
 | cons d0 r =>
  obtain ⟨z, hz, hm2⟩ := hs (cs := cs) (ds := r) hl (by simpa using hd) (fun j g hg => by have := hf (j + 1) g (by simpa using hg); simpa using this)
  refine ⟨(y, z), ⟨(cs.drop off).take (prog.cellsOf f.type), cs.drop mm, ?_, hy, hz⟩, ?_⟩
  ·
   rw [← hm, ← List.drop_drop]
   exact (List.take_append_drop _ _).symm
  ·
   simp at h3; subst h3; simp only [Rows.uptoBulkAll]; omega
theorem opensM_struct {α : Type} {R : Rep α} {m : α → Nat} {t : TypeId} {fs : Array Field} {total : Nat} (hu : prog.underlying t = some (.struct fs)) (hc : prog.cellsOf t = total) (h : OpensFsM fs.toList 0 total R m) : OpensM R m t := by
 intro H enc W base n sp held cs x hx hl
 obtain ⟨xs, mm, _, rfl, hlen, hxs, hf⟩ := DataW.trod_struct hu hx
 have := h (enc := enc) (W := W) (base := base) (n := mm) (sp := sp) (held := held) (cs := cs) (ds := xs.map (·.1)) (by rw [hlen, hc]) (by simp [hxs]) (fun j f hj => by
  have hj' : fs[j]? = some f := by simpa using hj
  have h1 := hf j f hj'
  have hlt : j < xs.length := by
   have := (Array.getElem?_eq_some_iff.1 hj').1
   omega
  have h2 : xs[j]? = some xs[j] := List.getElem?_eq_getElem hlt
  rw [h2] at h1
  refine ⟨xs[j], h1, light_struct hu hl (j := j) (by simp [hj']) (by simp [h2]), by simp [h2]⟩)
 obtain ⟨y, hy, hm⟩ := this
 refine ⟨y, by simpa using hy, ?_⟩
 simp only [Rows.uptoBulk]
 omega
theorem sum_one {α : Type} (L : List α) : sumBy (fun _ => 1) L = L.length := by
 induction L with
 | nil => rfl
 | cons a L ih => simp only [sumBy, List.map_cons, List.sum_cons, List.length_cons] at ih ⊢; omega
def mState (x : StateD) : Nat := sumBy (fun _ => 1) x.1 + (sumBy (fun _ => 1) x.2.1 + (sumBy (fun _ => 1) x.2.2.1 + (sumBy (fun _ => 1) x.2.2.2.1 + (sumBy (fun _ => 1) x.2.2.2.2.1 + sumBy (fun _ => 1) x.2.2.2.2.2))))
theorem opensM_s_Pod : OpensM (RSl RPod 16 296) (sumBy fun _ => 1) 54 := opensM_slice RPod.firm underlying54 (by kernel_rfl) (by kernel_rfl) (by decide) opens_Pod.m
theorem opensM_s_Node : OpensM (RSl RNode 9 112) (sumBy fun _ => 1) 55 := opensM_slice RNode.firm underlying55 (by kernel_rfl) (by kernel_rfl) (by decide) opens_Node.m
theorem opensM_s_Volume : OpensM (RSl RVolume 5 80) (sumBy fun _ => 1) 56 := opensM_slice RVolume.firm underlying56 (by kernel_rfl) (by kernel_rfl) (by decide) opens_Volume.m
theorem opensM_s_Claim : OpensM (RSl RClaim 4 56) (sumBy fun _ => 1) 57 := opensM_slice RClaim.firm underlying57 (by kernel_rfl) (by kernel_rfl) (by decide) opens_Claim.m
theorem opensM_s_Class : OpensM (RSl RClass 2 24) (sumBy fun _ => 1) 58 := opensM_slice RClass.firm underlying58 (by kernel_rfl) (by kernel_rfl) (by decide) opens_Class.m
theorem opensM_s_Budget : OpensM (RSl RBudget 3 48) (sumBy fun _ => 1) 59 := opensM_slice RBudget.firm underlying59 (by kernel_rfl) (by kernel_rfl) (by decide) opens_Budget.m
theorem opensM_State : OpensM RState mState 61 := opensM_struct (total := 6) underlying61 (by kernel_rfl) (opensFsM_cons (mm := 1) rfl (by kernel_rfl) opensM_s_Pod (opensFsM_cons (mm := 2) rfl (by kernel_rfl) opensM_s_Node (opensFsM_cons (mm := 3) rfl (by kernel_rfl) opensM_s_Volume (opensFsM_cons (mm := 4) rfl (by kernel_rfl) opensM_s_Claim (opensFsM_cons (mm := 5) rfl (by kernel_rfl) opensM_s_Class (opensFsM_last rfl (by kernel_rfl) opensM_s_Budget))))))
theorem opensM_arg {α : Type} {R : Rep α} {m : α → Nat} {t : TypeId} {fs : Array Field} (hu : prog.underlying t = some (.struct fs)) (h : OpensM R m t) {H : Type} {enc : TypeId × Value → H} {W : World} {base b0 : Nat} {r : Reach} {sp : Nat → Bool} {held : Bool} {v : Value} {d : DataW H} {p : List MemPlace}
  (hv : Value.okWide prog W r b0 t v) (hd : DataW.Trod enc prog W base sp held t v d p) (hl : Light d t) : ∃ cs y, v = .agg cs ∧ R (fun _ => True) W cs.toList y ∧ m y ≤ Rows.uptoBulk d := by
 obtain ⟨cs, fuel, e, hf⟩ := arg_agg hu hv hd
 obtain ⟨y, hy, hm⟩ := h hf hl
 exact ⟨cs, y, e, hy, hm⟩
end Go.Proofs.YtfbnnfpnjjjfcaaGreat

