/- tally.clone gives a tally of its own. Condition: the tally lies as is said of it; fewer than 1,000,000,000 terms of a kind. -/
import Derived.Test.YtfnafgmengefaaaGreatDoorQ14
namespace Go.Proofs.YtfnafgmengefaaaGreatDoor
open Go.RowKit Go.Maps
set_option linter.unusedSimpArgs false
set_option maxRecDepth 100000

theorem sl_solid {α : Type} [Inhabited α] {R : Rep α} {k bytes : Nat} (hR : Firm R k) (hk : 0 < k) (hs : ∀ {A : Where} {w : World} {cs : List Value} {x : α}, R A w cs x → R (fun b => A b ∧ NotMap w b) w cs x) {A : Where} {w : World} {a : Option Addr} {n cap : Nat} {L : List α} (h : SlAt R k bytes A w a n cap L) : SlAt R k bytes (fun b => A b ∧ NotMap w b) w a n cap L := by
  obtain ⟨h1, h2, h3, h4, h5⟩ := h
  refine ⟨h1, h2, h3, h4, fun hn => ?_⟩
  obtain ⟨B, off, rfl, hB, hA, hc⟩ := h5 hn
  refine ⟨B, off, rfl, hB, ⟨hA, fun es c hh => ?_⟩, fun i hi => ?_⟩
  · obtain ⟨cs, hr, hv⟩ := hc 0 hn
    have hl := hR.len hr
    obtain ⟨v, hv0⟩ : ∃ v, cs[0]? = some v := ⟨cs[0], List.getElem?_eq_getElem (by omega)⟩
    have := hv 0 v hv0
    simp [World.cell?, hh] at this
  · obtain ⟨cs, hr, hv⟩ := hc i hi
    exact ⟨cs, hs hr, hv⟩
theorem RReq.solid {A : Where} {w : World} {cs : List Value} {x : Ask} (h : RReq A w cs x) : RReq (fun b => A b ∧ NotMap w b) w cs x := by
  obtain ⟨h2, rfl, z, s⟩ := h.out
  exact RReq.mk z (sl_solid RStr.firm (by omega) (fun h => h) s)
theorem RWish.solid {A : Where} {w : World} {cs : List Value} {x : WishD} (h : RWish A w cs x) : RWish (fun b => A b ∧ NotMap w b) w cs x := by
  obtain ⟨h0, rfl, s, z⟩ := h.out
  exact RWish.mk (sl_solid RReq.firm (by omega) RReq.solid s) z
/-- What a clone of a tally is. -/
structure TalC (X : Where) (w u : World) (ts : List Value) (T' T : TalD) (N : Nat) (g : TermD → Lab → Int) (oF : Lab → Int) : Prop where
  r : RTally (fun b => NM T' b ∧ X b) u ts T'
  n : T'.1 = T.1
  l : T'.2.1 = T.2.1
  a : (tNear T').map Prod.fst = (tNear T).map Prod.fst
  b : (tApart T').map Prod.fst = (tApart T).map Prod.fst
  m : MapsAt u T' N g oF
  f : ∀ b ∈ mapsT T', w.heap.size ≤ b
theorem TalC.set {X : Where} {w u : World} {ts : List Value} {T' T : TalD} {N : Nat} {g : TermD → Lab → Int} {oF : Lab → Int} (h : TalC X w u ts T' T N g oF) {q : Addr} (hq : NotMap u q.block) (hX : ¬ X q.block) (v : Value) : TalC X w (u.setCell q v) ts T' T N g oF :=
  ⟨RTally.firm.kept h.r (Kept.set (fun k => hX k.2) v), h.n, h.l, h.a, h.b, h.m.on (fun b hb _ => Below.heap_setCell u q v b (fun e => h.m.isMap hb (e ▸ hq))), h.f⟩
theorem talC_mk {w u wa wb va vb : World} {T : TalD} {N : Nat} {g : TermD → Lab → Int} {oF : Lab → Int} {a1 a2 a3 : Option Addr} {n1 c1 n2 c2 n3 c3 mo : Nat} {M1 M2 : List WishD} (lo : Nat)
    (p0 : T.1.size ≤ 140737488355328) (s1 : SlAt RLabel 2 32 (fun b => lo ≤ b) u a1 n1 c1 T.2.1)
    (s2 : SlAt RWish 3 48 (Fresh wa) u a2 n2 c2 M1) (e1 : M1.map Prod.fst = (tNear T).map Prod.fst) (z1 : Cnts wa va N g M1) (b1 : Below va.heap.size va u)
    (s3 : SlAt RWish 3 48 (Fresh wb) u a3 n3 c3 M2) (e2 : M2.map Prod.fst = (tApart T).map Prod.fst) (z2 : Cnts wb vb N g M2) (b2 : Below vb.heap.size vb u) (hab : va.heap.size ≤ wb.heap.size) (haa : wa.heap.size ≤ va.heap.size)
    (hm : CntAt u mo N oF) (hmo : lo ≤ mo) (hma : mo < wa.heap.size) (hlo : w.heap.size ≤ lo) :
    TalC (fun b => lo ≤ b) w u [.string T.1, .slice a1 n1 c1, .slice a2 n2 c2, .slice a3 n3 c3, .map (some mo)] (T.1, T.2.1, M1, M2, mo) T N g oF := by
  have Z1 : Cnts wa u N g M1 := z1.on (fun b _ hlt => b1.block b hlt)
  have Z2 : Cnts wb u N g M2 := z2.on (fun b _ hlt => b2.block b hlt)
  have hM : MapsAt u (T.1, T.2.1, M1, M2, mo) N g oF := by
    refine ⟨fun t ht => ?_, hm, ?_⟩
    · rcases List.mem_append.1 ht with ht | ht
      · exact Z1.c t ht
      · exact Z2.c t ht
    · show (((M1 ++ M2).map Prod.snd) ++ [mo]).Nodup
      rw [List.map_append, List.nodup_append, List.nodup_append]
      refine ⟨⟨Z1.n, Z2.n, fun x hx y hy => ?_⟩, by simp, fun x hx y hy => ?_⟩
      · obtain ⟨t, ht, rfl⟩ := List.mem_map.1 hx
        obtain ⟨s, hs, rfl⟩ := List.mem_map.1 hy
        have := (z1.c t ht).lt
        have := z2.f s hs
        omega
      · obtain rfl : y = mo := by simpa using hy
        rcases List.mem_append.1 hx with hx | hx
        · obtain ⟨t, ht, rfl⟩ := List.mem_map.1 hx; have := z1.f t ht; omega
        · obtain ⟨t, ht, rfl⟩ := List.mem_map.1 hx; have := z2.f t ht; omega
  have hF : ∀ b ∈ mapsT (T.1, T.2.1, M1, M2, mo), w.heap.size ≤ b := fun b hb => by
    unfold mapsT at hb
    rcases List.mem_append.1 hb with hb | hb
    · obtain ⟨t, ht, rfl⟩ := List.mem_map.1 hb
      rcases List.mem_append.1 ht with ht | ht
      · have := z1.f t ht; omega
      · have := z2.f t ht; omega
    · obtain rfl : b = mo := by simpa using hb
      omega
  refine ⟨RTally.mk (x := (T.1, T.2.1, M1, M2, mo)) (h1 := (a1, n1, c1)) (h2 := (a2, n2, c2)) (h3 := (a3, n3, c3)) p0 ?_ ?_ ?_, rfl, rfl, e1, e2, hM, hF⟩
  · exact (sl_solid RLabel.firm (by omega) (fun h => h) s1).weak RLabel.firm (fun b _ h => ⟨fun hm => hM.isMap hm h.2, h.1⟩)
  · exact (sl_solid RWish.firm (by omega) RWish.solid s2).weak RWish.firm (fun b _ h => ⟨fun hm => hM.isMap hm h.2, by have h1 : wa.heap.size ≤ b := h.1; show lo ≤ b; omega⟩)
  · exact (sl_solid RWish.firm (by omega) RWish.solid s3).weak RWish.firm (fun b _ h => ⟨fun hm => hM.isMap hm h.2, by have h1 : wb.heap.size ≤ b := h.1; show lo ≤ b; omega⟩)
end Go.Proofs.YtfnafgmengefaaaGreatDoor
