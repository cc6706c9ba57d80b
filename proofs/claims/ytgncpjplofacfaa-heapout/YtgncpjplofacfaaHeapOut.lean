/- The law HeapOut holds of the program: what is pushed comes out sorted, the last one of each key alone; the chapter's example comes out. For every input; no condition. -/
import Derived.Test.YtgncpjplofacfaaHPk
import Derived.Test.YtgncpjplofacfaaRows
namespace Go.Proofs.Ytgncpjplofacfaa.heapOut
open Go.ChangeShapes Go.WideShapes Go.ChangeAt Go.RowKit Go.Maps
set_option linter.unusedSimpArgs false

def KeS (w : World) (B off j m : Nat) (x y : ByteArray) (u : World) : Prop := Below w.heap.size w u ∧ u.cell? ⟨B, off + m * 3, none⟩ = some (.string y) ∧ u.cell? ⟨B, off + j * 3, none⟩ = some (.string x)
def BxS (w : World) (C o k b : Nat) (x y : It) (u : World) : Prop := Below w.heap.size w u ∧ u.cell? ⟨C, o + k * 3, none⟩ = some (.string y.1) ∧ u.cell? ⟨C, o + k * 3 + 1, none⟩ = some (.int .i64 y.2.1) ∧ u.cell? ⟨C, o + k * 3 + 2, none⟩ = some (.int .i64 y.2.2) ∧
  u.cell? ⟨b, 0, none⟩ = some (.string x.1) ∧ u.cell? ⟨b, 1, none⟩ = some (.int .i64 x.2.1) ∧ u.cell? ⟨b, 2, none⟩ = some (.int .i64 x.2.2)
theorem Ahead_as (a b : It) (w : World) {r : Bool} (h : ahead a b = r) : Calls Try.prog 25 #[vI a, vI b] w fun e w' => e = .returned (.bool r) ∧ Below w.heap.size w w' := by
  subst h; exact Ahead_calls a b w
/-- How things stand behind j pushes. -/
def In1 (w : World) (hb n : Nat) (L : List It) (l : Value) (j : Nat) (A : List It) (wr : World) : Prop :=
  Own w wr 27 3 l (lst L j n).length (flatE encI (lst L j n)) ∧ (∃ g c, l = .slice (some ⟨g, 0, none⟩) (lst L j n).length c) ∧ HeapL A ∧ A.Perm (lst L j j) ∧ Hpk w wr hb A (fun b => l.ownBlock = some b)
/-- How things stand when O has come out and A is left. -/
def In2 (w : World) (hb n : Nat) (L : List It) (l o : Value) (O A : List It) (wr : World) : Prop :=
  Own w wr 27 3 o O.length (flatE encI O) ∧ (∃ g c, o = .slice (some ⟨g, 0, none⟩) O.length c) ∧ Own w wr 27 3 l (lst L n n).length (flatE encI (lst L n n)) ∧ HeapL A ∧ (O ++ A).Perm (lst L n n) ∧ Srt O 0 O.length ∧ (∀ x ∈ O, ∀ y ∈ A, nl x y) ∧
    Hpk w wr hb A (fun b => o.ownBlock = some b ∨ l.ownBlock = some b) ∧ (∀ b, o.ownBlock = some b → l.ownBlock ≠ some b)
/-- How things stand when x has come out. -/
structure PoQ (w : World) (hb : Nat) (o vl : Value) (O A A' M : List It) (x : It) (w2 : World) : Prop where
  hh : HeapL A'
  pm : (A' ++ [x]).Perm A
  hp : Hpk w w2 hb A' (fun b => o.ownBlock = some b ∨ vl.ownBlock = some b)
  oo : Own w w2 27 3 o O.length (flatE encI O)
  ol : Own w w2 27 3 vl M.length (flatE encI M)
  ah : ∀ y ∈ A', ahead x y = true
  ok : okI x
  ap : ∀ b, o.ownBlock = some b → vl.ownBlock ≠ some b
  all : (O ++ A).Perm M
  sr : Srt O 0 O.length
  le : ∀ z ∈ O, ∀ y ∈ A, nl z y
theorem PoQ.len {w w2 : World} {hb : Nat} {o vl : Value} {O A A' M : List It} {x : It} (h : PoQ w hb o vl O A A' M x w2) : A'.length + 1 = A.length := by
  have := h.pm.length_eq; simpa using this
theorem PoQ.mk' {w wr w2 : World} {hb n : Nat} {L : List It} {o vl : Value} {O A A' : List It} (h : In2 w hb n L vl o O A wr) (h0 : 0 < A.length) (q1 : HeapL A') (q2 : (A' ++ [at_ A 0]).Perm A) (q3 : Hpk w w2 hb A' (fun b => o.ownBlock = some b ∨ vl.ownBlock = some b))
    (q4 : Own w w2 27 3 o O.length (flatE encI O)) (q5 : Own w w2 27 3 vl (lst L n n).length (flatE encI (lst L n n))) : PoQ w hb o vl O A A' (lst L n n) (at_ A 0) w2 := by
  obtain ⟨_, _, _, h4, h5, h6, h7, h8, h9⟩ := h
  exact ⟨q1, q2, q3, q4, q5, pop_ahead h4 h8.dk q2, h8.ok _ (by rw [at_get h0]; exact List.getElem_mem _), h9, h5, h6, h7⟩
theorem PoQ.fin {w w2 wr u' : World} {hb n : Nat} {L : List It} {go co : Nat} {vl v' : Value} {O A A' : List It} {x : It} (h : PoQ w hb (.slice (some ⟨go, 0, none⟩) O.length co) vl O A A' (lst L n n) x w2) (hb2 : Below w2.heap.size w2 wr)
    (h1 : Own w u' 27 3 v' (O ++ [x]).length (flatE encI (O ++ [x]))) (h2 : (wr.alloc (.cells #[.string x.1, .int .i64 x.2.1, .int .i64 x.2.2] 27)).grownBy u' (some go)) (h3 : v'.ownBlock = some go ∨ v'.ownBlock = some (wr.alloc (.cells #[.string x.1, .int .i64 x.2.1, .int .i64 x.2.2] 27)).heap.size) : In2 w hb n L vl v' (O ++ [x]) A' u' := by
  have hbW : Below w2.heap.size w2 (wr.alloc (.cells #[.string x.1, .int .i64 x.2.1, .int .i64 x.2.2] 27)) := on2 hb2 (by go_grown)
  have hol := h.ol.on hbW
  have hxA : x ∈ A := h.pm.mem_iff.1 (by simp)
  generalize wr.alloc (.cells #[.string x.1, .int .i64 x.2.1, .int .i64 x.2.2] 27) = W at *
  refine ⟨h1, ?_, hol.other h2 h1.1 (fun b e1 e2 => h.ap b e2 e1), h.hh, ?_, srt_snoc h.sr (fun y hy => h.le y hy x hxA), ?_, ?_, ?_⟩
  · rcases own_cells h1.2 with ⟨_, h0⟩ | ⟨g', c', e, _⟩
    · simp at h0
    · exact ⟨g', c', e⟩
  · rw [List.append_assoc]
    exact (List.Perm.append_left _ (List.perm_append_comm.trans h.pm)).trans h.all
  · intro z hz y hy
    rcases List.mem_append.1 hz with hz | hz
    · exact h.le z hz y (h.pm.mem_iff.1 (List.mem_append_left _ hy))
    · rw [List.mem_singleton.1 hz]; exact nl_of (h.ah y hy)
  · have k1 := h.hp.grow hbW
    have k2 := k1.keep (K' := fun b => (some go = some b ∨ vl.ownBlock = some b) ∨ b = W.heap.size) (fun b q1 q2 => q2.elim (fun q => q) (fun q => by omega))
    refine (k2.grown h2 (fun b e => .inl (.inl e))).keep (fun b _ q => ?_)
    rcases q with q | q
    · rcases h3 with h3 | h3
      · exact .inl (.inl (h3.symm.trans q))
      · rw [h3] at q; exact .inr (by simpa using q.symm)
    · exact .inl (.inr q)
  · intro b e1 e2
    rcases h3 with h3 | h3
    · exact h.ap b (h3.symm.trans e1) e2
    · rw [h3] at e1
      have : W.heap.size = b := by simpa using e1
      have := hol.blk e2
      omega
set_option maxRecDepth 100000 in
set_option maxHeartbeats 16000000 in
theorem core (a : Option Addr) (n0 cap : Nat) (L0 : List It) (w : World) (hn0 : L0.length = n0) (hat0 : Hid (RowAt encI 3 okI w a L0)) (hlc : n0 ≤ cap) (hbb : n0 ≤ 140737488355328) :
    Calls Try.prog 5 #[.slice a n0 cap] w fun e w' => e = .returned (.bool true) ∧ Below w.heap.size w w' := by
  have HN0 : Hid (L0.length = n0) := hn0
  clear hn0
  go_enter Try.func5, Try.ntmps5
  obtain ⟨n, L, HL, hnn, HN, hat⟩ : ∃ (n : Nat) (L : List It), Hid (n = min n0 300) ∧ n ≤ 300 ∧ Hid (L.length = n) ∧ Hid (RowAt encI 3 okI w a L) :=
    ⟨min n0 300, L0.take 300, rfl, by omega, by have := HN0.out; rw [Hid, List.length_take]; omega, hat0.out.take 300⟩
  have hby : n < 1000000000 := by omega
  have HBIG : (n = n0 ∧ n0 ≤ 300) ∨ (n = 300 ∧ 300 < n0) := by have := HL.out; omega
  clear HL hat0 HN0
  rcases HBIG with ⟨rfl, hs⟩ | ⟨rfl, hs⟩
  · have hsi : ¬ (300 : Int) < (n : Int) := by omega
    go_wp2_with (first
      | (go_at_call 22; refine (works_calls _).mono ?_; rintro e w1 ⟨rfl, hb1⟩)
      | (go_at_call 8; refine (New_calls _).mono ?_; rintro e w2 ⟨hb, rfl, hh2, hb2⟩))
    have hs1 := hb1.size
    have IN1 : Hid (In1 w hb n L (.slice (some ⟨w2.heap.size, 0, none⟩) 0 0) 0 [] (w2.alloc (.cells #[] 27))) := by
      have hbw := on2 hb1 hb2
      have hk : Hpk w w2 hb [] (fun _ => False) := Hpk.new (hh2.weak (fun b _ hf => Nat.le_trans hs1 hf)) (fun _ h => h)
      refine ⟨Own.start w w2 _ _ hbw, ⟨w2.heap.size, 0, rfl⟩, fun k h1 h2 => by simp at h2, List.Perm.refl _, ?_⟩
      exact (hk.keep (K' := fun b => b = w2.heap.size) (fun b h1 h2 => by omega)).grow (by go_grown) |>.keep (fun b _ h2 => by simpa [Value.ownBlock] using h2.symm)
    clear hb1 hb2 hh2 hs1
    go_loopw [4, 5] (fun l i wr => ∃ (j : Nat) (A : List It), j ≤ n ∧ i = .int .i64 j ∧ Hid (In1 w hb n L l j A wr)) (fun _ i _ => n - (intOf i).toNat)
    case atStart => exact ⟨0, [], Nat.zero_le _, rfl, IN1⟩
    case round =>
      obtain ⟨j, A, hjl, rfl, hrl⟩ := hrel
      clear IN1
      obtain ⟨g, cl, hul⟩ : ∃ g c, u4 = .slice (some ⟨g, 0, none⟩) (lst L j n).length c := hrl.out.2.1
      subst hul
      have hbw : Hid (Below w.heap.size w wr) := hrl.out.1.1
      have hAj : Hid (A.length ≤ j) := by rw [Hid, hrl.out.2.2.2.1.length_eq]; exact lst_length _ _ _
      by_cases hlt : j < n
      · obtain ⟨B, off, rfl, hB, c0', c1', c2', hx1⟩ := hat.out.three (i := j) (by rw [HN.out]; exact hlt)
        have hji : (j : Int) < (n : Int) := by omega
        have hji0 : (0 : Int) ≤ (j : Int) := by omega
        have c0 := (hbw.out.cell hB).trans c0'
        have c1 := (hbw.out.cell hB).trans c1'
        have c2 := (hbw.out.cell hB).trans c2'
        have HX : Hid (w.cell? ⟨B, off + j * 3, none⟩ = some (.string (at_ L j).1) ∧ w.cell? ⟨B, off + j * 3 + 1, none⟩ = some (.int .i64 (at_ L j).2.1) ∧ w.cell? ⟨B, off + j * 3 + 2, none⟩ = some (.int .i64 (at_ L j).2.2)) := ⟨c0', c1', c2'⟩
        clear c0' c1' c2'
        have HP : Hid (∀ A' : List It, A'.Perm (stepK A (at_ L j)) → A'.Perm (lst L (j + 1) (j + 1))) := fun A' h => by rw [lst_step]; exact h.trans (stepK_perm hrl.out.2.2.2.1 _)
        have HLS : Hid (lst L (j + 1) n = if lat L j n then lst L j n else lst L j n ++ [at_ L j]) := lst_succ L j n
        have HLA : Hid (lat L j (j + 1) = (at_ L j).1.toList.isEmpty) := lat_start L j
        have HLS2 : Hid (∀ m, j < m → lat L j (m + 1) = (lat L j m || ((at_ L m).1.toList == (at_ L j).1.toList))) := fun m h => lat_succ L j m h
        generalize hxx : at_ L j = x at c0 c1 c2 hx1 HX HP HLS HLA HLS2
        clear hxx
        go_wp2_with (go_at_call 10; refine (Push_step hrl.out.2.2.2.2 hbw.out.size (fun b h => hrl.out.1.blk h) (by have := hAj.out; omega) hrl.out.2.2.1 x hx1).mono ?_; rintro e w1 ⟨A', ⟨r9, c9, rfl, q1, q2⟩, q3, q4⟩; have Q : Hid (HeapL A' ∧ A'.Perm (lst L (j + 1) (j + 1)) ∧ Hpk w w1 hb A' (fun b => (Value.slice (some ⟨g, 0, none⟩) (lst L j n).length cl).ownBlock = some b) ∧ Own w w1 27 3 (.slice (some ⟨g, 0, none⟩) (lst L j n).length cl) (lst L j n).length (flatE encI (lst L j n))) := ⟨q1, HP.out A' q2, q3, hrl.out.1.turn q4 (fun b h => h)⟩; clear q1 q2 q3 q4 hrl HP c0 c1 c2; have d0 := (Q.out.2.2.2.1.cell hB).trans HX.out.1)
        have HK : Hid (∀ {u : World} (m : Nat) (y : ByteArray), w.cell? ⟨B, off + m * 3, none⟩ = some (.string y) → Below w1.heap.size w1 u → KeS w1 B off j m x.1 y u) := fun {u} m y hy hb => ⟨hb, ((on2 Q.out.2.2.2.1 hb).cell hB).trans hy, ((on2 Q.out.2.2.2.1 hb).cell hB).trans HX.out.1⟩
        go_loopw [6, 7] (fun lt k wr => ∃ m : Nat, j + 1 ≤ m ∧ m ≤ n ∧ k = .int .i64 m ∧ lt = .bool (lat L j m) ∧ Hid (Below w1.heap.size w1 wr)) (fun _ k _ => n - (intOf k).toNat)
        case atStart => exact ⟨j + 1, Nat.le_refl _, by omega, by go_num, by rw [HLA.out], Below.refl _ _⟩
        case round =>
          obtain ⟨m, hm1, hm2, rfl, rfl, hbm⟩ := hrel
          by_cases hmn : m < n
          · have hmi : (m : Int) < (n : Int) := by omega
            have hmi0 : (0 : Int) ≤ (m : Int) := by omega
            obtain ⟨B', off', e', hB', y0, _, _, _⟩ := hat.out.three (i := m) (by rw [HN.out]; exact hmn)
            obtain ⟨rfl, rfl⟩ : B = B' ∧ off = off' := by simpa using e'
            have HS : Hid (∀ {u : World}, Below w1.heap.size w1 u → KeS w1 B off j m x.1 (at_ L m).1 u) := fun {u} hb => HK.out m _ y0 hb
            have HM : Hid (lat L j (m + 1) = (lat L j m || ((at_ L m).1.toList == x.1.toList))) := HLS2.out m (by omega)
            clear y0 e' hB' d0
            generalize (at_ L m).1 = y at HS HM
            cases hla : lat L j m with
            | true =>
              have HR : Hid (lat L j (m + 1) = true) := by rw [Hid, HM.out, hla]; rfl
              clear hla HM
              go_wp2_with fail
              refine wp_region_noPanic ?_
              refine wp_region_held_drew (S := KeS w1 B off j m x.1 y) (by kernel_rfl) (HS.out hbm.out.drew) (fun hHeld => ?_)
              refine wpAnyH_take (i := 0) (v := ?vat0) rfl (by kernel_rfl) (by kernel_rfl) (by kernel_rfl) (fun _ _ _ h => h) (Or.inl ⟨by rfl, ?hyat0⟩) (by assumption) ?restat0
              case hyat0 => (intro u hu; obtain ⟨_, _, _⟩ := hu; go_simp; try with_reducible rfl)
              try simp only [Act.put, List.setIfInBounds_toArray, List.set_cons_zero, List.set_cons_succ, List.getElem_toArray, List.getElem_cons_zero, List.getElem_cons_succ]
              refine wpAnyH_take (i := 1) (v := ?vat1) rfl (by kernel_rfl) (by kernel_rfl) (by kernel_rfl) (fun _ _ _ h => h) (Or.inl ⟨by rfl, ?hyat1⟩) (by assumption) ?restat1
              case hyat1 => (intro u hu; obtain ⟨_, _, _⟩ := hu; go_simp; try with_reducible rfl)
              try simp only [Act.put, List.setIfInBounds_toArray, List.set_cons_zero, List.set_cons_succ, List.getElem_toArray, List.getElem_cons_zero, List.getElem_cons_succ]
              refine wpAnyH_take (i := 2) (v := undef) rfl (by kernel_rfl) (by kernel_rfl) (by kernel_rfl) (fun _ _ _ h => h) (Or.inr ⟨by rfl, rfl⟩) (by assumption) ?_
              try simp only [Act.put, List.setIfInBounds_toArray, List.set_cons_zero, List.set_cons_succ, List.getElem_toArray, List.getElem_cons_zero, List.getElem_cons_succ]
              refine wpAnyH_take (i := 3) (v := undef) rfl (by kernel_rfl) (by kernel_rfl) (by kernel_rfl) (fun _ _ _ h => h) (Or.inr ⟨by rfl, rfl⟩) (by assumption) ?_
              try simp only [Act.put, List.setIfInBounds_toArray, List.set_cons_zero, List.set_cons_succ, List.getElem_toArray, List.getElem_cons_zero, List.getElem_cons_succ]
              refine wpAnyH_take (i := 4) (v := undef) rfl (by kernel_rfl) (by kernel_rfl) (by kernel_rfl) (fun _ _ _ h => h) (Or.inr ⟨by rfl, rfl⟩) (by assumption) ?_
              try simp only [Act.put, List.setIfInBounds_toArray, List.set_cons_zero, List.set_cons_succ, List.getElem_toArray, List.getElem_cons_zero, List.getElem_cons_succ]
              refine wpAnyH_take (i := 5) (v := undef) rfl (by kernel_rfl) (by kernel_rfl) (by kernel_rfl) (fun _ _ _ h => h) (Or.inr ⟨by rfl, rfl⟩) (by assumption) ?_
              try simp only [Act.put, List.setIfInBounds_toArray, List.set_cons_zero, List.set_cons_succ, List.getElem_toArray, List.getElem_cons_zero, List.getElem_cons_succ]
              refine wpAnyH_take (i := 6) (v := undef) rfl (by kernel_rfl) (by kernel_rfl) (by kernel_rfl) (fun _ _ _ h => h) (Or.inr ⟨by rfl, rfl⟩) (by assumption) ?_
              try simp only [Act.put, List.setIfInBounds_toArray, List.set_cons_zero, List.set_cons_succ, List.getElem_toArray, List.getElem_cons_zero, List.getElem_cons_succ]
              refine wpAnyH_take (i := 7) (v := undef) rfl (by kernel_rfl) (by kernel_rfl) (by kernel_rfl) (fun _ _ _ h => h) (Or.inr ⟨by rfl, rfl⟩) (by assumption) ?_
              try simp only [Act.put, List.setIfInBounds_toArray, List.set_cons_zero, List.set_cons_succ, List.getElem_toArray, List.getElem_cons_zero, List.getElem_cons_succ]
              refine wpAnyH_take (i := 8) (v := undef) rfl (by kernel_rfl) (by kernel_rfl) (by kernel_rfl) (fun _ _ _ h => h) (Or.inr ⟨by rfl, rfl⟩) (by assumption) ?_
              try simp only [Act.put, List.setIfInBounds_toArray, List.set_cons_zero, List.set_cons_succ, List.getElem_toArray, List.getElem_cons_zero, List.getElem_cons_succ]
              refine wpAnyH_take (i := 9) (v := undef) rfl (by kernel_rfl) (by kernel_rfl) (by kernel_rfl) (fun _ _ _ h => h) (Or.inr ⟨by rfl, rfl⟩) (by assumption) ?_
              try simp only [Act.put, List.setIfInBounds_toArray, List.set_cons_zero, List.set_cons_succ, List.getElem_toArray, List.getElem_cons_zero, List.getElem_cons_succ]
              refine wpAnyH_take (i := 10) (v := undef) rfl (by kernel_rfl) (by kernel_rfl) (by kernel_rfl) (fun _ _ _ h => h) (Or.inr ⟨by rfl, rfl⟩) (by assumption) ?_
              try simp only [Act.put, List.setIfInBounds_toArray, List.set_cons_zero, List.set_cons_succ, List.getElem_toArray, List.getElem_cons_zero, List.getElem_cons_succ]
              refine wpAnyH_take (i := 11) (v := undef) rfl (by kernel_rfl) (by kernel_rfl) (by kernel_rfl) (fun _ _ _ h => h) (Or.inr ⟨by rfl, rfl⟩) (by assumption) ?_
              try simp only [Act.put, List.setIfInBounds_toArray, List.set_cons_zero, List.set_cons_succ, List.getElem_toArray, List.getElem_cons_zero, List.getElem_cons_succ]
              refine wpAnyH_take (i := 12) (v := undef) rfl (by kernel_rfl) (by kernel_rfl) (by kernel_rfl) (fun _ _ _ h => h) (Or.inr ⟨by rfl, rfl⟩) (by assumption) ?_
              try simp only [Act.put, List.setIfInBounds_toArray, List.set_cons_zero, List.set_cons_succ, List.getElem_toArray, List.getElem_cons_zero, List.getElem_cons_succ]
              refine wpAnyH_take (i := 13) (v := ?vat13) rfl (by kernel_rfl) (by kernel_rfl) (by kernel_rfl) (fun _ _ _ h => h) (Or.inl ⟨by rfl, ?hyat13⟩) (by assumption) ?restat13
              case hyat13 => (intro u hu; obtain ⟨_, _, _⟩ := hu; go_simp; try with_reducible rfl)
              try simp only [Act.put, List.setIfInBounds_toArray, List.set_cons_zero, List.set_cons_succ, List.getElem_toArray, List.getElem_cons_zero, List.getElem_cons_succ]
              refine wpAnyH_take (i := 14) (v := ?vat14) rfl (by kernel_rfl) (by kernel_rfl) (by kernel_rfl) (fun _ _ _ h => h) (Or.inl ⟨by rfl, ?hyat14⟩) (by assumption) ?restat14
              case hyat14 => (intro u hu; obtain ⟨_, _, _⟩ := hu; go_simp; try with_reducible rfl)
              try simp only [Act.put, List.setIfInBounds_toArray, List.set_cons_zero, List.set_cons_succ, List.getElem_toArray, List.getElem_cons_zero, List.getElem_cons_succ]
              refine wpAnyH_done (by kernel_rfl) ?_ _
              refine NoPanic.normal ?_
              have HB : Hid (Below w1.heap.size w1 wr.drew) := hHeld.1
              clear hHeld HS
              go_wp2_with fail
              go_roundw
              case rel => exact ⟨m + 1, by omega, by omega, by go_num, by rw [HR.out], HB⟩
              case measure => simp [intOf]; omega
            | false =>
              obtain ⟨r, hr⟩ : ∃ r, (y.toList == x.1.toList) = r := ⟨_, rfl⟩
              have HR : Hid (lat L j (m + 1) = r) := by rw [Hid, HM.out, hla, hr]; rfl
              clear hla HM
              go_wp2_with fail
              refine wp_region_noPanic ?_
              refine wp_region_held_drew (S := KeS w1 B off j m x.1 y) (by kernel_rfl) (HS.out hbm.out.drew) (fun hHeld => ?_)
              refine wpAnyH_take (i := 0) (v := ?vaf0) rfl (by kernel_rfl) (by kernel_rfl) (by kernel_rfl) (fun _ _ _ h => h) (Or.inl ⟨by rfl, ?hyaf0⟩) (by assumption) ?restaf0
              case hyaf0 => (intro u hu; obtain ⟨_, _, _⟩ := hu; go_simp; try with_reducible rfl)
              try simp only [Act.put, List.setIfInBounds_toArray, List.set_cons_zero, List.set_cons_succ, List.getElem_toArray, List.getElem_cons_zero, List.getElem_cons_succ]
              refine wpAnyH_take (i := 1) (v := ?vaf1) rfl (by kernel_rfl) (by kernel_rfl) (by kernel_rfl) (fun _ _ _ h => h) (Or.inl ⟨by rfl, ?hyaf1⟩) (by assumption) ?restaf1
              case hyaf1 => (intro u hu; obtain ⟨_, _, _⟩ := hu; go_simp; try with_reducible rfl)
              try simp only [Act.put, List.setIfInBounds_toArray, List.set_cons_zero, List.set_cons_succ, List.getElem_toArray, List.getElem_cons_zero, List.getElem_cons_succ]
              refine wpAnyH_take (i := 2) (v := ?vaf2) rfl (by kernel_rfl) (by kernel_rfl) (by kernel_rfl) (fun _ _ _ h => h) (Or.inl ⟨by rfl, ?hyaf2⟩) (by assumption) ?restaf2
              case hyaf2 => (intro u hu; obtain ⟨_, _, _⟩ := hu; go_simp; try with_reducible rfl)
              try simp only [Act.put, List.setIfInBounds_toArray, List.set_cons_zero, List.set_cons_succ, List.getElem_toArray, List.getElem_cons_zero, List.getElem_cons_succ]
              refine wpAnyH_take (i := 3) (v := ?vaf3) rfl (by kernel_rfl) (by kernel_rfl) (by kernel_rfl) (fun _ _ _ h => h) (Or.inl ⟨by rfl, ?hyaf3⟩) (by assumption) ?restaf3
              case hyaf3 => (intro u hu; obtain ⟨_, _, _⟩ := hu; go_simp; try with_reducible rfl)
              try simp only [Act.put, List.setIfInBounds_toArray, List.set_cons_zero, List.set_cons_succ, List.getElem_toArray, List.getElem_cons_zero, List.getElem_cons_succ]
              refine wpAnyH_take (i := 4) (v := ?vaf4) rfl (by kernel_rfl) (by kernel_rfl) (by kernel_rfl) (fun _ _ _ h => h) (Or.inl ⟨by rfl, ?hyaf4⟩) (by assumption) ?restaf4
              case hyaf4 => (intro u hu; obtain ⟨_, _, _⟩ := hu; go_simp; try with_reducible rfl)
              try simp only [Act.put, List.setIfInBounds_toArray, List.set_cons_zero, List.set_cons_succ, List.getElem_toArray, List.getElem_cons_zero, List.getElem_cons_succ]
              refine wpAnyH_take (i := 5) (v := ?vaf5) rfl (by kernel_rfl) (by kernel_rfl) (by kernel_rfl) (fun _ _ _ h => h) (Or.inl ⟨by rfl, ?hyaf5⟩) (by assumption) ?restaf5
              case hyaf5 => (intro u hu; obtain ⟨_, _, _⟩ := hu; go_simp; try with_reducible rfl)
              try simp only [Act.put, List.setIfInBounds_toArray, List.set_cons_zero, List.set_cons_succ, List.getElem_toArray, List.getElem_cons_zero, List.getElem_cons_succ]
              refine wpAnyH_take (i := 6) (v := ?vaf6) rfl (by kernel_rfl) (by kernel_rfl) (by kernel_rfl) (fun _ _ _ h => h) (Or.inl ⟨by rfl, ?hyaf6⟩) (by assumption) ?restaf6
              case hyaf6 => (intro u hu; obtain ⟨_, _, _⟩ := hu; go_simp; try with_reducible rfl)
              try simp only [Act.put, List.setIfInBounds_toArray, List.set_cons_zero, List.set_cons_succ, List.getElem_toArray, List.getElem_cons_zero, List.getElem_cons_succ]
              refine wpAnyH_take (i := 7) (v := ?vaf7) rfl (by kernel_rfl) (by kernel_rfl) (by kernel_rfl) (fun _ _ _ h => h) (Or.inl ⟨by rfl, ?hyaf7⟩) (by assumption) ?restaf7
              case hyaf7 => (intro u hu; obtain ⟨_, _, _⟩ := hu; go_simp; try with_reducible rfl)
              try simp only [Act.put, List.setIfInBounds_toArray, List.set_cons_zero, List.set_cons_succ, List.getElem_toArray, List.getElem_cons_zero, List.getElem_cons_succ]
              refine wpAnyH_take (i := 8) (v := ?vaf8) rfl (by kernel_rfl) (by kernel_rfl) (by kernel_rfl) (fun _ _ _ h => h) (Or.inl ⟨by rfl, ?hyaf8⟩) (by assumption) ?restaf8
              case hyaf8 => (intro u hu; obtain ⟨_, _, _⟩ := hu; go_simp; try with_reducible rfl)
              try simp only [Act.put, List.setIfInBounds_toArray, List.set_cons_zero, List.set_cons_succ, List.getElem_toArray, List.getElem_cons_zero, List.getElem_cons_succ]
              refine wpAnyH_take (i := 9) (v := ?vaf9) rfl (by kernel_rfl) (by kernel_rfl) (by kernel_rfl) (fun _ _ _ h => h) (Or.inl ⟨by rfl, ?hyaf9⟩) (by assumption) ?restaf9
              case hyaf9 => (intro u hu; obtain ⟨_, _, _⟩ := hu; go_simp; try with_reducible rfl)
              try simp only [Act.put, List.setIfInBounds_toArray, List.set_cons_zero, List.set_cons_succ, List.getElem_toArray, List.getElem_cons_zero, List.getElem_cons_succ]
              refine wpAnyH_take (i := 10) (v := ?vaf10) rfl (by kernel_rfl) (by kernel_rfl) (by kernel_rfl) (fun _ _ _ h => h) (Or.inl ⟨by rfl, ?hyaf10⟩) (by assumption) ?restaf10
              case hyaf10 => (intro u hu; obtain ⟨_, _, _⟩ := hu; go_simp; try with_reducible rfl)
              try simp only [Act.put, List.setIfInBounds_toArray, List.set_cons_zero, List.set_cons_succ, List.getElem_toArray, List.getElem_cons_zero, List.getElem_cons_succ]
              refine wpAnyH_take (i := 11) (v := ?vaf11) rfl (by kernel_rfl) (by kernel_rfl) (by kernel_rfl) (fun _ _ _ h => h) (Or.inl ⟨by rfl, ?hyaf11⟩) (by assumption) ?restaf11
              case hyaf11 => (intro u hu; obtain ⟨_, _, _⟩ := hu; go_simp; try with_reducible rfl)
              try simp only [Act.put, List.setIfInBounds_toArray, List.set_cons_zero, List.set_cons_succ, List.getElem_toArray, List.getElem_cons_zero, List.getElem_cons_succ]
              refine wpAnyH_take (i := 12) (v := ?vaf12) rfl (by kernel_rfl) (by kernel_rfl) (by kernel_rfl) (fun _ _ _ h => h) (Or.inl ⟨by rfl, ?hyaf12⟩) (by assumption) ?restaf12
              case hyaf12 => (intro u hu; obtain ⟨_, _, _⟩ := hu; go_simp; try with_reducible rfl)
              try simp only [Act.put, List.setIfInBounds_toArray, List.set_cons_zero, List.set_cons_succ, List.getElem_toArray, List.getElem_cons_zero, List.getElem_cons_succ]
              refine wpAnyH_take (i := 13) (v := ?vaf13) rfl (by kernel_rfl) (by kernel_rfl) (by kernel_rfl) (fun _ _ _ h => h) (Or.inl ⟨by rfl, ?hyaf13⟩) (by assumption) ?restaf13
              case hyaf13 => (intro u hu; obtain ⟨_, _, _⟩ := hu; go_simp; try with_reducible rfl)
              try simp only [Act.put, List.setIfInBounds_toArray, List.set_cons_zero, List.set_cons_succ, List.getElem_toArray, List.getElem_cons_zero, List.getElem_cons_succ]
              refine wpAnyH_take (i := 14) (v := ?vaf14) rfl (by kernel_rfl) (by kernel_rfl) (by kernel_rfl) (fun _ _ _ h => h) (Or.inl ⟨by rfl, ?hyaf14⟩) (by assumption) ?restaf14
              case hyaf14 => (intro u hu; obtain ⟨_, _, _⟩ := hu; go_simp; try with_reducible rfl)
              try simp only [Act.put, List.setIfInBounds_toArray, List.set_cons_zero, List.set_cons_succ, List.getElem_toArray, List.getElem_cons_zero, List.getElem_cons_succ]
              refine wpAnyH_done (by kernel_rfl) ?_ _
              refine NoPanic.normal ?_
              have HB : Hid (Below w1.heap.size w1 wr.drew) := hHeld.1
              clear hHeld HS
              go_wp2_with fail
              go_roundw
              case rel => exact ⟨m + 1, by omega, by omega, by go_num, by rw [HR.out], HB⟩
              case measure => simp [intOf]; omega
          · have hmi : ¬ (m : Int) < (n : Int) := by omega
            obtain rfl : m = n := by omega
            clear HK d0
            cases hla : lat L j m with
            | true =>
              have HE : Hid (lst L (j + 1) m = lst L j m) := by rw [Hid, HLS.out, hla]; rfl
              have HI : Hid (In1 w hb m L (.slice (some ⟨g, 0, none⟩) (lst L j m).length cl) (j + 1) A' wr) := by
                have := Q.out
                unfold Hid In1
                rw [HE.out]
                exact ⟨this.2.2.2.on hbm.out, ⟨g, cl, rfl⟩, this.1, this.2.1, this.2.2.1.grow hbm.out⟩
              clear Q HLS HLS2 HLA HX HE
              go_wp2_with fail
              go_roundw
              case rel => exact ⟨j + 1, A', by omega, by go_num, HI⟩
              case measure => simp [intOf]; omega
            | false =>
              have HE : Hid (lst L (j + 1) m = lst L j m ++ [x]) := by rw [Hid, HLS.out, hla]; rfl
              have e0 := ((on2 Q.out.2.2.2.1 hbm.out).cell hB).trans HX.out.1
              have e1 := ((on2 Q.out.2.2.2.1 hbm.out).cell hB).trans HX.out.2.1
              have e2 := ((on2 Q.out.2.2.2.1 hbm.out).cell hB).trans HX.out.2.2
              have HO : Hid (Own w (wr.alloc (.cells #[.string x.1, .int .i64 x.2.1, .int .i64 x.2.2] 27)) 27 3 (.slice (some ⟨g, 0, none⟩) (lst L j m).length cl) (lst L j m).length (flatE encI (lst L j m))) := (Q.out.2.2.2.on hbm.out).on (by go_grown)
              have HV : Hid (∀ v' u', Own w u' 27 3 v' (lst L j m ++ [x]).length (flatE encI (lst L j m ++ [x])) → (wr.alloc (.cells #[.string x.1, .int .i64 x.2.1, .int .i64 x.2.2] 27)).grownBy u' (some g) → (v'.ownBlock = some g ∨ v'.ownBlock = some (wr.alloc (.cells #[.string x.1, .int .i64 x.2.1, .int .i64 x.2.2] 27)).heap.size) → Hid (In1 w hb m L v' (j + 1) A' u')) := by
                intro v' u' h1 h2 h3
                have := Q.out
                unfold Hid In1
                rw [HE.out]
                refine ⟨h1, ?_, this.1, this.2.1, ?_⟩
                · rcases own_cells h1.2 with ⟨_, h0⟩ | ⟨g', c', e, _⟩
                  · simp at h0
                  · exact ⟨g', c', e⟩
                · have k1 := (this.2.2.1.grow hbm.out).grow (u' := wr.alloc (.cells #[.string x.1, .int .i64 x.2.1, .int .i64 x.2.2] 27)) (by go_grown)
                  have k2 := k1.keep (K' := fun b => some g = some b ∨ b = (wr.alloc (.cells #[.string x.1, .int .i64 x.2.1, .int .i64 x.2.2] 27)).heap.size) (fun b q1 q2 => q2.elim (fun q => q) (fun q => by omega))
                  refine (k2.grown h2 (fun b e => .inl e)).keep (fun b _ q => ?_)
                  rcases h3 with h3 | h3
                  · exact .inl (h3.symm.trans q)
                  · rw [h3] at q; exact .inr (by simpa using q.symm)
              clear Q HLS HLS2 HLA HX HE
              go_wp2_with (at_builtin; go_must (refine items_appendL (w0 := w) rfl _ _ rfl _ (lst L j m) rfl HO.out ⟨wr.heap.size, 0, none⟩ 1 1 [x] rfl rfl (row_one _ x hx1) (by have := lst_length L j m; simp; omega) ?_); intro v3 w3 hO3 hg3 hw3; have HI := HV.out v3 w3 hO3 hg3 hw3; clear hO3 hg3 hw3)
              go_roundw
              case rel => exact ⟨j + 1, A', by omega, by go_num, HI⟩
              case measure => simp [intOf]; omega
      · have hji : ¬ (j : Int) < (n : Int) := by omega
        obtain rfl : j = n := by omega
        have IN2 : Hid (In2 w hb j L (.slice (some ⟨g, 0, none⟩) (lst L j j).length cl) (.slice (some ⟨wr.heap.size, 0, none⟩) 0 0) [] A (wr.alloc (.cells #[] 27))) := by
          obtain ⟨h1, _, h3, h4, h5⟩ := hrl.out
          have hg := h1.blk (b := g) rfl
          refine ⟨Own.start w wr _ _ h1.1, ⟨wr.heap.size, 0, rfl⟩, h1.on (by go_grown), h3, h4, fun i j h1 h2 h3 => by simp at h3, (fun x hx => by simp at hx), ?_, ?_⟩
          · refine (h5.keep (K' := fun b => b = wr.heap.size ∨ some g = some b) (fun b q1 q2 => q2.elim (fun q => by omega) (fun q => q))).grow (by go_grown) |>.keep (fun b _ q => q.elim (fun q => .inl (by simpa [Value.ownBlock] using q.symm)) (fun q => .inr q))
          · intro b e1 e2
            simp [Value.ownBlock] at e1 e2
            omega
        clear hrl hAj hbw
        generalize hvl : Value.slice (some ⟨g, 0, none⟩) (lst L j j).length cl = vl at IN2
        have HVL : Hid (Value.slice (some ⟨g, 0, none⟩) (lst L j j).length cl = vl) := hvl
        clear hvl
        go_wp2_with fail
        go_loopw [8] (fun o wr => ∃ (O A : List It), lenV o = O.length ∧ Hid (In2 w hb j L vl o O A wr)) (fun o _ => (lst L j j).length - lenV o)
        case atStart => exact ⟨[], A, rfl, IN2⟩
        case round =>
          clear IN2
          obtain ⟨O, A, hlO, hrl⟩ := hrel
          obtain ⟨go, co, huo⟩ : ∃ g c, u8 = .slice (some ⟨g, 0, none⟩) O.length c := hrl.out.2.1
          subst huo
          clear hlO
          have HLN : Hid (O.length + A.length = (lst L j j).length ∧ (lst L j j).length ≤ j) := ⟨by rw [← List.length_append]; exact hrl.out.2.2.2.2.1.length_eq, lst_length _ _ _⟩
          have hOl : (O.length : Int) ≤ (j : Int) := by have := HLN.out; omega
          by_cases hA0 : A.length = 0
          · have hAi : (A.length : Int) = 0 := by omega
            have HE : Hid (O = stabF (lst L j j)) := by
              have h := hrl.out
              obtain rfl : A = [] := List.length_eq_zero_iff.1 hA0
              have hp := h.2.2.2.2.1
              rw [List.append_nil] at hp
              exact srt_stab hp h.2.2.2.2.2.1
            have HOk : Hid (∀ x ∈ lst L j j, okI x) := lst_ok (by rw [HN.out]; exact Nat.le_refl _) hat.out.2.1
            have HOk2 : Hid (∀ x ∈ O, okI x) := fun x hx => HOk.out x (hrl.out.2.2.2.2.1.mem_iff.1 (List.mem_append_left _ hx))
            have HRL : Hid (RowAt encI 3 okI wr (some ⟨g, 0, none⟩) (lst L j j)) := by
              obtain ⟨a', c', e, h, _⟩ := row_of_owns (ok := okI) encI_len hrl.out.2.2.1.2 (by have := HLN.out; omega) HOk.out
              rw [← HVL.out] at e
              obtain ⟨rfl, _⟩ : a' = some ⟨g, 0, none⟩ ∧ c' = cl := by simp at e; exact ⟨e.1.symm, e.2.symm⟩
              exact h
            have HRO : Hid (RowAt encI 3 okI wr (some ⟨go, 0, none⟩) O) := by
              obtain ⟨a', c', e, h, _⟩ := row_of_owns (ok := okI) encI_len hrl.out.1.2 (by have := HLN.out; omega) HOk2.out
              obtain ⟨rfl, _⟩ : a' = some ⟨go, 0, none⟩ ∧ c' = co := by simp at e; exact ⟨e.1.symm, e.2.symm⟩
              exact h
            have HBW : Hid (Below w.heap.size w wr) := hrl.out.1.1
            have HOL : Hid ((lst L j j).length = O.length) := by have := HLN.out; unfold Hid; omega
            go_wp2_with (go_at_call 20; refine (Len_step hrl.out.2.2.2.2.2.2.2.1).mono ?_; rintro e w1 ⟨rfl, hb1⟩)
            rw [← HVL.out, HOL.out]
            go_wp2_with (first
              | (go_at_call 23; refine (Sort_calls (some ⟨g, 0, none⟩) O.length cl (lst L j j) _ HOL.out (HRL.out.on hb1) (by omega)).mono ?_; rintro e w2 ⟨⟨a2, c2, rfl, R2'⟩, hb2'⟩; have R2 : Hid (RowAt encI 3 okI w2 a2 O) := (by rw [HE.out]; exact R2'); have hb2 : Hid (Below w1.heap.size w1 w2) := hb2'; clear R2' hb2')
              | (go_at_call 21; refine (same_calls (some ⟨go, 0, none⟩) a2 O.length co c2 O _ rfl (HRO.out.on (on2 hb1 hb2.out)) R2 (by omega)).mono ?_; rintro e w3 ⟨rfl, hb3⟩))
            go_ret
            exact ⟨rfl, on2 HBW.out (on2 hb1 (on2 hb2.out hb3))⟩
          · have hAi : ¬ (A.length : Int) = 0 := by omega
            have hAp : (0 : Int) < (A.length : Int) := by omega
            have HBW : Hid (Below w.heap.size w wr) := hrl.out.1.1
            have HBK : Hid (∀ b, ((Value.slice (some ⟨go, 0, none⟩) O.length co).ownBlock = some b ∨ vl.ownBlock = some b) → b < wr.heap.size) := fun b h => h.elim (fun q => hrl.out.1.blk q) (fun q => hrl.out.2.2.1.blk q)
            go_wp2_with (first
              | (go_at_call 20; refine (Len_step hrl.out.2.2.2.2.2.2.2.1).mono ?_; rintro e w1 ⟨rfl, hb1⟩)
              | (go_at_call 13; refine (Pop_step (hrl.out.2.2.2.2.2.2.2.1.grow hb1) (on2 HBW.out hb1).size (fun b h => Nat.lt_of_lt_of_le (HBK.out b h) hb1.size) (by have := HLN.out; omega) hrl.out.2.2.2.1 (by omega)).mono ?_; rintro e w2 ⟨A', ⟨rfl, q1, q2⟩, q3, q4⟩; have Q : Hid (PoQ w hb (.slice (some ⟨go, 0, none⟩) O.length co) vl O A A' (lst L j j) (at_ A 0) w2) := PoQ.mk' hrl.out (by omega) q1 q2 q3 ((hrl.out.1.on hb1).turn q4 (fun b h => .inl h)) ((hrl.out.2.2.1.on hb1).turn q4 (fun b h => .inr h)); clear q1 q2 q3 q4 hrl; generalize at_ A 0 = x at Q)
              | (go_at_call 19; refine (All_step (Q.out.hp.grow (by go_grown)) (by have := HLN.out; have := Q.out.len; omega)).mono ?_; rintro e w3 ⟨a3, c3, rfl, R3', hb3', _⟩; have R3 : Hid (RowAt encI 3 okI w3 a3 (stabF A')) := R3'; have b0 := (hb3'.cell (p := ⟨w2.heap.size, 0, none⟩) (by simp)).trans (show _ = some (Value.string x.1) by simp [go_sem]); have b1 := (hb3'.cell (p := ⟨w2.heap.size, 1, none⟩) (by simp)).trans (show _ = some (Value.int .i64 x.2.1) by simp [go_sem]); have b2 := (hb3'.cell (p := ⟨w2.heap.size, 2, none⟩) (by simp)).trans (show _ = some (Value.int .i64 x.2.2) by simp [go_sem]); have hz3 : w2.heap.size < w3.heap.size := (by have := hb3'.size; simp at this; omega); have HB3 : Hid (Below w2.heap.size w2 w3) := on2 (by go_grown) hb3'; clear R3' hb3'))
            have HX : Hid (w3.cell? ⟨w2.heap.size, 0, none⟩ = some (.string x.1) ∧ w3.cell? ⟨w2.heap.size, 1, none⟩ = some (.int .i64 x.2.1) ∧ w3.cell? ⟨w2.heap.size, 2, none⟩ = some (.int .i64 x.2.2)) := ⟨b0, b1, b2⟩
            clear b0 b1 b2
            have HA' : A'.length < 1000000000 := by have := HLN.out; have := Q.out.len; omega
            go_loopw [12] (fun k wr => ∃ m : Nat, m ≤ A'.length ∧ k = .int .i64 m ∧ Hid (Below w3.heap.size w3 wr)) (fun k _ => A'.length - (intOf k).toNat)
            case atStart => exact ⟨0, Nat.zero_le _, rfl, Below.refl _ _⟩
            case round =>
              obtain ⟨m, hm, rfl, hbm⟩ := hrel
              by_cases hmn : m < A'.length
              · have hmi : (m : Int) < (A'.length : Int) := by omega
                have hmi0 : (0 : Int) ≤ (m : Int) := by omega
                obtain ⟨C, o, rfl, hC, y0, y1, y2, _⟩ := R3.out.three (i := m) (by rw [stabF_length]; exact hmn)
                have HAH : Hid (ahead x (at_ (stabF A') m) = true) := Q.out.ah _ ((stabF_perm A').mem_iff.1 (by rw [at_get (by rw [stabF_length]; exact hmn)]; exact List.getElem_mem _))
                have HS : Hid (∀ {u : World}, Below w3.heap.size w3 u → BxS w3 C o m w2.heap.size x (at_ (stabF A') m) u) := fun hb => ⟨hb, (hb.cell hC).trans y0, (hb.cell hC).trans y1, (hb.cell hC).trans y2, (hb.cell hz3).trans HX.out.1, (hb.cell hz3).trans HX.out.2.1, (hb.cell hz3).trans HX.out.2.2⟩
                clear y0 y1 y2
                generalize at_ (stabF A') m = y at HS HAH
                go_wp2_with fail
                refine wp_region_noPanic ?_
                refine wp_region_held_drew (S := BxS w3 C o m w2.heap.size x y) (by kernel_rfl) (HS.out hbm.out.drew) (fun hHeld => ?_)
                refine wpAnyH_take (i := 0) (v := ?vaq0) rfl (by kernel_rfl) (by kernel_rfl) (by kernel_rfl) (fun _ _ _ h => h) (Or.inl ⟨by rfl, ?hyaq0⟩) (by assumption) ?restaq0
                case hyaq0 => (intro u hu; obtain ⟨_, _, _, _, _, _, _⟩ := hu; go_simp; try with_reducible rfl)
                try simp only [Act.put, List.setIfInBounds_toArray, List.set_cons_zero, List.set_cons_succ, List.getElem_toArray, List.getElem_cons_zero, List.getElem_cons_succ]
                refine wpAnyH_take (i := 1) (v := ?vaq1) rfl (by kernel_rfl) (by kernel_rfl) (by kernel_rfl) (fun _ _ _ h => h) (Or.inl ⟨by rfl, ?hyaq1⟩) (by assumption) ?restaq1
                case hyaq1 => (intro u hu; obtain ⟨_, _, _, _, _, _, _⟩ := hu; go_simp; try with_reducible rfl)
                try simp only [Act.put, List.setIfInBounds_toArray, List.set_cons_zero, List.set_cons_succ, List.getElem_toArray, List.getElem_cons_zero, List.getElem_cons_succ]
                refine wpAnyH_take (i := 2) (v := ?vaq2) rfl (by kernel_rfl) (by kernel_rfl) (by kernel_rfl) (fun _ _ _ h => h) (Or.inl ⟨by rfl, ?hyaq2⟩) (by assumption) ?restaq2
                case hyaq2 => (intro u hu; obtain ⟨_, _, _, _, _, _, _⟩ := hu; go_simp; try with_reducible rfl)
                try simp only [Act.put, List.setIfInBounds_toArray, List.set_cons_zero, List.set_cons_succ, List.getElem_toArray, List.getElem_cons_zero, List.getElem_cons_succ]
                refine wpAnyH_take (i := 3) (v := ?vaq3) rfl (by kernel_rfl) (by kernel_rfl) (by kernel_rfl) (fun _ _ _ h => h) (Or.inl ⟨by rfl, ?hyaq3⟩) (by assumption) ?restaq3
                case hyaq3 => (intro u hu; obtain ⟨_, _, _, _, _, _, _⟩ := hu; go_simp; try with_reducible rfl)
                try simp only [Act.put, List.setIfInBounds_toArray, List.set_cons_zero, List.set_cons_succ, List.getElem_toArray, List.getElem_cons_zero, List.getElem_cons_succ]
                refine wpAnyH_take (i := 4) (v := ?vaq4) rfl (by kernel_rfl) (by kernel_rfl) (by kernel_rfl) (fun _ _ _ h => h) (Or.inl ⟨by rfl, ?hyaq4⟩) (by assumption) ?restaq4
                case hyaq4 => (intro u hu; obtain ⟨_, _, _, _, _, _, _⟩ := hu; go_simp; try with_reducible rfl)
                try simp only [Act.put, List.setIfInBounds_toArray, List.set_cons_zero, List.set_cons_succ, List.getElem_toArray, List.getElem_cons_zero, List.getElem_cons_succ]
                refine wpAnyH_ready (rs := [5]) (by kernel_rfl) (by simp) ?_
                refine AllReadyH.cons rfl (fun K hK => ?_) AllReadyH.nil
                go_simp
                refine (Ahead_as x y _ HAH.out).mono ?_
                rintro e w4 ⟨rfl, hb4⟩
                go_wp2_with fail
                refine hK.out _ _ (HS.out (on2 hHeld.1 hb4)) (fun hHeld2 => ?_)
                clear hK K hHeld
                have hHeld := hHeld2
                clear hHeld2
                try simp only [Act.put, List.setIfInBounds_toArray, List.set_cons_zero, List.set_cons_succ, List.getElem_toArray, List.getElem_cons_zero, List.getElem_cons_succ]
                refine wpAnyH_take (i := 6) (v := ?vaq6) rfl (by kernel_rfl) (by kernel_rfl) (by kernel_rfl) (fun _ _ _ h => h) (Or.inl ⟨by rfl, ?hyaq6⟩) (by assumption) ?restaq6
                case hyaq6 => (intro u hu; obtain ⟨_, _, _, _, _, _, _⟩ := hu; go_simp; try with_reducible rfl)
                try simp only [Act.put, List.setIfInBounds_toArray, List.set_cons_zero, List.set_cons_succ, List.getElem_toArray, List.getElem_cons_zero, List.getElem_cons_succ]
                refine wpAnyH_done (by kernel_rfl) ?_ _
                refine NoPanic.normal ?_
                have HB : Hid (Below w3.heap.size w3 w4) := hHeld.1
                clear hHeld HS
                go_wp2_with fail
                go_roundw
                case rel => exact ⟨m + 1, by omega, by go_num, HB⟩
                case measure => simp [intOf]; omega
              · have hmi : ¬ (m : Int) < (A'.length : Int) := by omega
                have e0 := (hbm.out.cell hz3).trans HX.out.1
                have e1 := (hbm.out.cell hz3).trans HX.out.2.1
                have e2 := (hbm.out.cell hz3).trans HX.out.2.2
                have HBM : Hid (Below w2.heap.size w2 wr) := on2 HB3.out hbm.out
                clear HX R3 hbm HB3
                go_wp2_with (at_builtin; go_must (refine items_appendL (w0 := w) rfl _ _ rfl _ O rfl ((Q.out.oo.on HBM.out).on (by go_grown)) ⟨wr.heap.size, 0, none⟩ 1 1 [x] rfl rfl (row_one _ x Q.out.ok) (by have := HLN.out; simp; omega) ?_); intro v5 w5 hO5 hg5 hw5; have HI : Hid (In2 w hb j L vl v5 (O ++ [x]) A' w5) := Q.out.fin HBM.out hO5 hg5 hw5; clear hO5 hg5 hw5)
                have HLV : Hid (lenV v5 = O.length + 1) := by obtain ⟨_, _, e⟩ := HI.out.2.1; rw [e]; simp [lenV, Hid]
                go_roundw
                case rel => exact ⟨O ++ [x], A', by rw [HLV.out]; simp, HI⟩
                case measure => have h1 := HLV.out; have h2 := HLN.out; rw [h1]; simp only [lenV]; omega
  · have hsi : (300 : Int) < (n0 : Int) := by omega
    have hsc : (300 : Int) ≤ (cap : Int) := by omega
    go_wp2_with (first
      | (go_at_call 22; refine (works_calls _).mono ?_; rintro e w1 ⟨rfl, hb1⟩)
      | (go_at_call 8; refine (New_calls _).mono ?_; rintro e w2 ⟨hb, rfl, hh2, hb2⟩))
    have hs1 := hb1.size
    have IN1 : Hid (In1 w hb 300 L (.slice (some ⟨w2.heap.size, 0, none⟩) 0 0) 0 [] (w2.alloc (.cells #[] 27))) := by
      have hbw := on2 hb1 hb2
      have hk : Hpk w w2 hb [] (fun _ => False) := Hpk.new (hh2.weak (fun b _ hf => Nat.le_trans hs1 hf)) (fun _ h => h)
      refine ⟨Own.start w w2 _ _ hbw, ⟨w2.heap.size, 0, rfl⟩, fun k h1 h2 => by simp at h2, List.Perm.refl _, ?_⟩
      exact (hk.keep (K' := fun b => b = w2.heap.size) (fun b h1 h2 => by omega)).grow (by go_grown) |>.keep (fun b _ h2 => by simpa [Value.ownBlock] using h2.symm)
    clear hb1 hb2 hh2 hs1
    go_loopw [4, 5] (fun l i wr => ∃ (j : Nat) (A : List It), j ≤ 300 ∧ i = .int .i64 j ∧ Hid (In1 w hb 300 L l j A wr)) (fun _ i _ => 300 - (intOf i).toNat)
    case atStart => exact ⟨0, [], Nat.zero_le _, rfl, IN1⟩
    case round =>
      obtain ⟨j, A, hjl, rfl, hrl⟩ := hrel
      clear IN1
      obtain ⟨g, cl, hul⟩ : ∃ g c, u4 = .slice (some ⟨g, 0, none⟩) (lst L j 300).length c := hrl.out.2.1
      subst hul
      have hbw : Hid (Below w.heap.size w wr) := hrl.out.1.1
      have hAj : Hid (A.length ≤ j) := by rw [Hid, hrl.out.2.2.2.1.length_eq]; exact lst_length _ _ _
      by_cases hlt : j < 300
      · obtain ⟨B, off, rfl, hB, c0', c1', c2', hx1⟩ := hat.out.three (i := j) (by rw [HN.out]; exact hlt)
        have hji : (j : Int) < (300 : Int) := by omega
        have hji0 : (0 : Int) ≤ (j : Int) := by omega
        have c0 := (hbw.out.cell hB).trans c0'
        have c1 := (hbw.out.cell hB).trans c1'
        have c2 := (hbw.out.cell hB).trans c2'
        have HX : Hid (w.cell? ⟨B, off + j * 3, none⟩ = some (.string (at_ L j).1) ∧ w.cell? ⟨B, off + j * 3 + 1, none⟩ = some (.int .i64 (at_ L j).2.1) ∧ w.cell? ⟨B, off + j * 3 + 2, none⟩ = some (.int .i64 (at_ L j).2.2)) := ⟨c0', c1', c2'⟩
        clear c0' c1' c2'
        have HP : Hid (∀ A' : List It, A'.Perm (stepK A (at_ L j)) → A'.Perm (lst L (j + 1) (j + 1))) := fun A' h => by rw [lst_step]; exact h.trans (stepK_perm hrl.out.2.2.2.1 _)
        have HLS : Hid (lst L (j + 1) 300 = if lat L j 300 then lst L j 300 else lst L j 300 ++ [at_ L j]) := lst_succ L j 300
        have HLA : Hid (lat L j (j + 1) = (at_ L j).1.toList.isEmpty) := lat_start L j
        have HLS2 : Hid (∀ m, j < m → lat L j (m + 1) = (lat L j m || ((at_ L m).1.toList == (at_ L j).1.toList))) := fun m h => lat_succ L j m h
        generalize hxx : at_ L j = x at c0 c1 c2 hx1 HX HP HLS HLA HLS2
        clear hxx
        go_wp2_with (go_at_call 10; refine (Push_step hrl.out.2.2.2.2 hbw.out.size (fun b h => hrl.out.1.blk h) (by have := hAj.out; omega) hrl.out.2.2.1 x hx1).mono ?_; rintro e w1 ⟨A', ⟨r9, c9, rfl, q1, q2⟩, q3, q4⟩; have Q : Hid (HeapL A' ∧ A'.Perm (lst L (j + 1) (j + 1)) ∧ Hpk w w1 hb A' (fun b => (Value.slice (some ⟨g, 0, none⟩) (lst L j 300).length cl).ownBlock = some b) ∧ Own w w1 27 3 (.slice (some ⟨g, 0, none⟩) (lst L j 300).length cl) (lst L j 300).length (flatE encI (lst L j 300))) := ⟨q1, HP.out A' q2, q3, hrl.out.1.turn q4 (fun b h => h)⟩; clear q1 q2 q3 q4 hrl HP c0 c1 c2; have d0 := (Q.out.2.2.2.1.cell hB).trans HX.out.1)
        have HK : Hid (∀ {u : World} (m : Nat) (y : ByteArray), w.cell? ⟨B, off + m * 3, none⟩ = some (.string y) → Below w1.heap.size w1 u → KeS w1 B off j m x.1 y u) := fun {u} m y hy hb => ⟨hb, ((on2 Q.out.2.2.2.1 hb).cell hB).trans hy, ((on2 Q.out.2.2.2.1 hb).cell hB).trans HX.out.1⟩
        go_loopw [6, 7] (fun lt k wr => ∃ m : Nat, j + 1 ≤ m ∧ m ≤ 300 ∧ k = .int .i64 m ∧ lt = .bool (lat L j m) ∧ Hid (Below w1.heap.size w1 wr)) (fun _ k _ => 300 - (intOf k).toNat)
        case atStart => exact ⟨j + 1, Nat.le_refl _, by omega, by go_num, by rw [HLA.out], Below.refl _ _⟩
        case round =>
          obtain ⟨m, hm1, hm2, rfl, rfl, hbm⟩ := hrel
          by_cases hmn : m < 300
          · have hmi : (m : Int) < (300 : Int) := by omega
            have hmi0 : (0 : Int) ≤ (m : Int) := by omega
            obtain ⟨B', off', e', hB', y0, _, _, _⟩ := hat.out.three (i := m) (by rw [HN.out]; exact hmn)
            obtain ⟨rfl, rfl⟩ : B = B' ∧ off = off' := by simpa using e'
            have HS : Hid (∀ {u : World}, Below w1.heap.size w1 u → KeS w1 B off j m x.1 (at_ L m).1 u) := fun {u} hb => HK.out m _ y0 hb
            have HM : Hid (lat L j (m + 1) = (lat L j m || ((at_ L m).1.toList == x.1.toList))) := HLS2.out m (by omega)
            clear y0 e' hB' d0
            generalize (at_ L m).1 = y at HS HM
            cases hla : lat L j m with
            | true =>
              have HR : Hid (lat L j (m + 1) = true) := by rw [Hid, HM.out, hla]; rfl
              clear hla HM
              go_wp2_with fail
              refine wp_region_noPanic ?_
              refine wp_region_held_drew (S := KeS w1 B off j m x.1 y) (by kernel_rfl) (HS.out hbm.out.drew) (fun hHeld => ?_)
              refine wpAnyH_take (i := 0) (v := ?vbt0) rfl (by kernel_rfl) (by kernel_rfl) (by kernel_rfl) (fun _ _ _ h => h) (Or.inl ⟨by rfl, ?hybt0⟩) (by assumption) ?restbt0
              case hybt0 => (intro u hu; obtain ⟨_, _, _⟩ := hu; go_simp; try with_reducible rfl)
              try simp only [Act.put, List.setIfInBounds_toArray, List.set_cons_zero, List.set_cons_succ, List.getElem_toArray, List.getElem_cons_zero, List.getElem_cons_succ]
              refine wpAnyH_take (i := 1) (v := ?vbt1) rfl (by kernel_rfl) (by kernel_rfl) (by kernel_rfl) (fun _ _ _ h => h) (Or.inl ⟨by rfl, ?hybt1⟩) (by assumption) ?restbt1
              case hybt1 => (intro u hu; obtain ⟨_, _, _⟩ := hu; go_simp; try with_reducible rfl)
              try simp only [Act.put, List.setIfInBounds_toArray, List.set_cons_zero, List.set_cons_succ, List.getElem_toArray, List.getElem_cons_zero, List.getElem_cons_succ]
              refine wpAnyH_take (i := 2) (v := undef) rfl (by kernel_rfl) (by kernel_rfl) (by kernel_rfl) (fun _ _ _ h => h) (Or.inr ⟨by rfl, rfl⟩) (by assumption) ?_
              try simp only [Act.put, List.setIfInBounds_toArray, List.set_cons_zero, List.set_cons_succ, List.getElem_toArray, List.getElem_cons_zero, List.getElem_cons_succ]
              refine wpAnyH_take (i := 3) (v := undef) rfl (by kernel_rfl) (by kernel_rfl) (by kernel_rfl) (fun _ _ _ h => h) (Or.inr ⟨by rfl, rfl⟩) (by assumption) ?_
              try simp only [Act.put, List.setIfInBounds_toArray, List.set_cons_zero, List.set_cons_succ, List.getElem_toArray, List.getElem_cons_zero, List.getElem_cons_succ]
              refine wpAnyH_take (i := 4) (v := undef) rfl (by kernel_rfl) (by kernel_rfl) (by kernel_rfl) (fun _ _ _ h => h) (Or.inr ⟨by rfl, rfl⟩) (by assumption) ?_
              try simp only [Act.put, List.setIfInBounds_toArray, List.set_cons_zero, List.set_cons_succ, List.getElem_toArray, List.getElem_cons_zero, List.getElem_cons_succ]
              refine wpAnyH_take (i := 5) (v := undef) rfl (by kernel_rfl) (by kernel_rfl) (by kernel_rfl) (fun _ _ _ h => h) (Or.inr ⟨by rfl, rfl⟩) (by assumption) ?_
              try simp only [Act.put, List.setIfInBounds_toArray, List.set_cons_zero, List.set_cons_succ, List.getElem_toArray, List.getElem_cons_zero, List.getElem_cons_succ]
              refine wpAnyH_take (i := 6) (v := undef) rfl (by kernel_rfl) (by kernel_rfl) (by kernel_rfl) (fun _ _ _ h => h) (Or.inr ⟨by rfl, rfl⟩) (by assumption) ?_
              try simp only [Act.put, List.setIfInBounds_toArray, List.set_cons_zero, List.set_cons_succ, List.getElem_toArray, List.getElem_cons_zero, List.getElem_cons_succ]
              refine wpAnyH_take (i := 7) (v := undef) rfl (by kernel_rfl) (by kernel_rfl) (by kernel_rfl) (fun _ _ _ h => h) (Or.inr ⟨by rfl, rfl⟩) (by assumption) ?_
              try simp only [Act.put, List.setIfInBounds_toArray, List.set_cons_zero, List.set_cons_succ, List.getElem_toArray, List.getElem_cons_zero, List.getElem_cons_succ]
              refine wpAnyH_take (i := 8) (v := undef) rfl (by kernel_rfl) (by kernel_rfl) (by kernel_rfl) (fun _ _ _ h => h) (Or.inr ⟨by rfl, rfl⟩) (by assumption) ?_
              try simp only [Act.put, List.setIfInBounds_toArray, List.set_cons_zero, List.set_cons_succ, List.getElem_toArray, List.getElem_cons_zero, List.getElem_cons_succ]
              refine wpAnyH_take (i := 9) (v := undef) rfl (by kernel_rfl) (by kernel_rfl) (by kernel_rfl) (fun _ _ _ h => h) (Or.inr ⟨by rfl, rfl⟩) (by assumption) ?_
              try simp only [Act.put, List.setIfInBounds_toArray, List.set_cons_zero, List.set_cons_succ, List.getElem_toArray, List.getElem_cons_zero, List.getElem_cons_succ]
              refine wpAnyH_take (i := 10) (v := undef) rfl (by kernel_rfl) (by kernel_rfl) (by kernel_rfl) (fun _ _ _ h => h) (Or.inr ⟨by rfl, rfl⟩) (by assumption) ?_
              try simp only [Act.put, List.setIfInBounds_toArray, List.set_cons_zero, List.set_cons_succ, List.getElem_toArray, List.getElem_cons_zero, List.getElem_cons_succ]
              refine wpAnyH_take (i := 11) (v := undef) rfl (by kernel_rfl) (by kernel_rfl) (by kernel_rfl) (fun _ _ _ h => h) (Or.inr ⟨by rfl, rfl⟩) (by assumption) ?_
              try simp only [Act.put, List.setIfInBounds_toArray, List.set_cons_zero, List.set_cons_succ, List.getElem_toArray, List.getElem_cons_zero, List.getElem_cons_succ]
              refine wpAnyH_take (i := 12) (v := undef) rfl (by kernel_rfl) (by kernel_rfl) (by kernel_rfl) (fun _ _ _ h => h) (Or.inr ⟨by rfl, rfl⟩) (by assumption) ?_
              try simp only [Act.put, List.setIfInBounds_toArray, List.set_cons_zero, List.set_cons_succ, List.getElem_toArray, List.getElem_cons_zero, List.getElem_cons_succ]
              refine wpAnyH_take (i := 13) (v := ?vbt13) rfl (by kernel_rfl) (by kernel_rfl) (by kernel_rfl) (fun _ _ _ h => h) (Or.inl ⟨by rfl, ?hybt13⟩) (by assumption) ?restbt13
              case hybt13 => (intro u hu; obtain ⟨_, _, _⟩ := hu; go_simp; try with_reducible rfl)
              try simp only [Act.put, List.setIfInBounds_toArray, List.set_cons_zero, List.set_cons_succ, List.getElem_toArray, List.getElem_cons_zero, List.getElem_cons_succ]
              refine wpAnyH_take (i := 14) (v := ?vbt14) rfl (by kernel_rfl) (by kernel_rfl) (by kernel_rfl) (fun _ _ _ h => h) (Or.inl ⟨by rfl, ?hybt14⟩) (by assumption) ?restbt14
              case hybt14 => (intro u hu; obtain ⟨_, _, _⟩ := hu; go_simp; try with_reducible rfl)
              try simp only [Act.put, List.setIfInBounds_toArray, List.set_cons_zero, List.set_cons_succ, List.getElem_toArray, List.getElem_cons_zero, List.getElem_cons_succ]
              refine wpAnyH_done (by kernel_rfl) ?_ _
              refine NoPanic.normal ?_
              have HB : Hid (Below w1.heap.size w1 wr.drew) := hHeld.1
              clear hHeld HS
              go_wp2_with fail
              go_roundw
              case rel => exact ⟨m + 1, by omega, by omega, by go_num, by rw [HR.out], HB⟩
              case measure => simp [intOf]; omega
            | false =>
              obtain ⟨r, hr⟩ : ∃ r, (y.toList == x.1.toList) = r := ⟨_, rfl⟩
              have HR : Hid (lat L j (m + 1) = r) := by rw [Hid, HM.out, hla, hr]; rfl
              clear hla HM
              go_wp2_with fail
              refine wp_region_noPanic ?_
              refine wp_region_held_drew (S := KeS w1 B off j m x.1 y) (by kernel_rfl) (HS.out hbm.out.drew) (fun hHeld => ?_)
              refine wpAnyH_take (i := 0) (v := ?vbf0) rfl (by kernel_rfl) (by kernel_rfl) (by kernel_rfl) (fun _ _ _ h => h) (Or.inl ⟨by rfl, ?hybf0⟩) (by assumption) ?restbf0
              case hybf0 => (intro u hu; obtain ⟨_, _, _⟩ := hu; go_simp; try with_reducible rfl)
              try simp only [Act.put, List.setIfInBounds_toArray, List.set_cons_zero, List.set_cons_succ, List.getElem_toArray, List.getElem_cons_zero, List.getElem_cons_succ]
              refine wpAnyH_take (i := 1) (v := ?vbf1) rfl (by kernel_rfl) (by kernel_rfl) (by kernel_rfl) (fun _ _ _ h => h) (Or.inl ⟨by rfl, ?hybf1⟩) (by assumption) ?restbf1
              case hybf1 => (intro u hu; obtain ⟨_, _, _⟩ := hu; go_simp; try with_reducible rfl)
              try simp only [Act.put, List.setIfInBounds_toArray, List.set_cons_zero, List.set_cons_succ, List.getElem_toArray, List.getElem_cons_zero, List.getElem_cons_succ]
              refine wpAnyH_take (i := 2) (v := ?vbf2) rfl (by kernel_rfl) (by kernel_rfl) (by kernel_rfl) (fun _ _ _ h => h) (Or.inl ⟨by rfl, ?hybf2⟩) (by assumption) ?restbf2
              case hybf2 => (intro u hu; obtain ⟨_, _, _⟩ := hu; go_simp; try with_reducible rfl)
              try simp only [Act.put, List.setIfInBounds_toArray, List.set_cons_zero, List.set_cons_succ, List.getElem_toArray, List.getElem_cons_zero, List.getElem_cons_succ]
              refine wpAnyH_take (i := 3) (v := ?vbf3) rfl (by kernel_rfl) (by kernel_rfl) (by kernel_rfl) (fun _ _ _ h => h) (Or.inl ⟨by rfl, ?hybf3⟩) (by assumption) ?restbf3
              case hybf3 => (intro u hu; obtain ⟨_, _, _⟩ := hu; go_simp; try with_reducible rfl)
              try simp only [Act.put, List.setIfInBounds_toArray, List.set_cons_zero, List.set_cons_succ, List.getElem_toArray, List.getElem_cons_zero, List.getElem_cons_succ]
              refine wpAnyH_take (i := 4) (v := ?vbf4) rfl (by kernel_rfl) (by kernel_rfl) (by kernel_rfl) (fun _ _ _ h => h) (Or.inl ⟨by rfl, ?hybf4⟩) (by assumption) ?restbf4
              case hybf4 => (intro u hu; obtain ⟨_, _, _⟩ := hu; go_simp; try with_reducible rfl)
              try simp only [Act.put, List.setIfInBounds_toArray, List.set_cons_zero, List.set_cons_succ, List.getElem_toArray, List.getElem_cons_zero, List.getElem_cons_succ]
              refine wpAnyH_take (i := 5) (v := ?vbf5) rfl (by kernel_rfl) (by kernel_rfl) (by kernel_rfl) (fun _ _ _ h => h) (Or.inl ⟨by rfl, ?hybf5⟩) (by assumption) ?restbf5
              case hybf5 => (intro u hu; obtain ⟨_, _, _⟩ := hu; go_simp; try with_reducible rfl)
              try simp only [Act.put, List.setIfInBounds_toArray, List.set_cons_zero, List.set_cons_succ, List.getElem_toArray, List.getElem_cons_zero, List.getElem_cons_succ]
              refine wpAnyH_take (i := 6) (v := ?vbf6) rfl (by kernel_rfl) (by kernel_rfl) (by kernel_rfl) (fun _ _ _ h => h) (Or.inl ⟨by rfl, ?hybf6⟩) (by assumption) ?restbf6
              case hybf6 => (intro u hu; obtain ⟨_, _, _⟩ := hu; go_simp; try with_reducible rfl)
              try simp only [Act.put, List.setIfInBounds_toArray, List.set_cons_zero, List.set_cons_succ, List.getElem_toArray, List.getElem_cons_zero, List.getElem_cons_succ]
              refine wpAnyH_take (i := 7) (v := ?vbf7) rfl (by kernel_rfl) (by kernel_rfl) (by kernel_rfl) (fun _ _ _ h => h) (Or.inl ⟨by rfl, ?hybf7⟩) (by assumption) ?restbf7
              case hybf7 => (intro u hu; obtain ⟨_, _, _⟩ := hu; go_simp; try with_reducible rfl)
              try simp only [Act.put, List.setIfInBounds_toArray, List.set_cons_zero, List.set_cons_succ, List.getElem_toArray, List.getElem_cons_zero, List.getElem_cons_succ]
              refine wpAnyH_take (i := 8) (v := ?vbf8) rfl (by kernel_rfl) (by kernel_rfl) (by kernel_rfl) (fun _ _ _ h => h) (Or.inl ⟨by rfl, ?hybf8⟩) (by assumption) ?restbf8
              case hybf8 => (intro u hu; obtain ⟨_, _, _⟩ := hu; go_simp; try with_reducible rfl)
              try simp only [Act.put, List.setIfInBounds_toArray, List.set_cons_zero, List.set_cons_succ, List.getElem_toArray, List.getElem_cons_zero, List.getElem_cons_succ]
              refine wpAnyH_take (i := 9) (v := ?vbf9) rfl (by kernel_rfl) (by kernel_rfl) (by kernel_rfl) (fun _ _ _ h => h) (Or.inl ⟨by rfl, ?hybf9⟩) (by assumption) ?restbf9
              case hybf9 => (intro u hu; obtain ⟨_, _, _⟩ := hu; go_simp; try with_reducible rfl)
              try simp only [Act.put, List.setIfInBounds_toArray, List.set_cons_zero, List.set_cons_succ, List.getElem_toArray, List.getElem_cons_zero, List.getElem_cons_succ]
              refine wpAnyH_take (i := 10) (v := ?vbf10) rfl (by kernel_rfl) (by kernel_rfl) (by kernel_rfl) (fun _ _ _ h => h) (Or.inl ⟨by rfl, ?hybf10⟩) (by assumption) ?restbf10
              case hybf10 => (intro u hu; obtain ⟨_, _, _⟩ := hu; go_simp; try with_reducible rfl)
              try simp only [Act.put, List.setIfInBounds_toArray, List.set_cons_zero, List.set_cons_succ, List.getElem_toArray, List.getElem_cons_zero, List.getElem_cons_succ]
              refine wpAnyH_take (i := 11) (v := ?vbf11) rfl (by kernel_rfl) (by kernel_rfl) (by kernel_rfl) (fun _ _ _ h => h) (Or.inl ⟨by rfl, ?hybf11⟩) (by assumption) ?restbf11
              case hybf11 => (intro u hu; obtain ⟨_, _, _⟩ := hu; go_simp; try with_reducible rfl)
              try simp only [Act.put, List.setIfInBounds_toArray, List.set_cons_zero, List.set_cons_succ, List.getElem_toArray, List.getElem_cons_zero, List.getElem_cons_succ]
              refine wpAnyH_take (i := 12) (v := ?vbf12) rfl (by kernel_rfl) (by kernel_rfl) (by kernel_rfl) (fun _ _ _ h => h) (Or.inl ⟨by rfl, ?hybf12⟩) (by assumption) ?restbf12
              case hybf12 => (intro u hu; obtain ⟨_, _, _⟩ := hu; go_simp; try with_reducible rfl)
              try simp only [Act.put, List.setIfInBounds_toArray, List.set_cons_zero, List.set_cons_succ, List.getElem_toArray, List.getElem_cons_zero, List.getElem_cons_succ]
              refine wpAnyH_take (i := 13) (v := ?vbf13) rfl (by kernel_rfl) (by kernel_rfl) (by kernel_rfl) (fun _ _ _ h => h) (Or.inl ⟨by rfl, ?hybf13⟩) (by assumption) ?restbf13
              case hybf13 => (intro u hu; obtain ⟨_, _, _⟩ := hu; go_simp; try with_reducible rfl)
              try simp only [Act.put, List.setIfInBounds_toArray, List.set_cons_zero, List.set_cons_succ, List.getElem_toArray, List.getElem_cons_zero, List.getElem_cons_succ]
              refine wpAnyH_take (i := 14) (v := ?vbf14) rfl (by kernel_rfl) (by kernel_rfl) (by kernel_rfl) (fun _ _ _ h => h) (Or.inl ⟨by rfl, ?hybf14⟩) (by assumption) ?restbf14
              case hybf14 => (intro u hu; obtain ⟨_, _, _⟩ := hu; go_simp; try with_reducible rfl)
              try simp only [Act.put, List.setIfInBounds_toArray, List.set_cons_zero, List.set_cons_succ, List.getElem_toArray, List.getElem_cons_zero, List.getElem_cons_succ]
              refine wpAnyH_done (by kernel_rfl) ?_ _
              refine NoPanic.normal ?_
              have HB : Hid (Below w1.heap.size w1 wr.drew) := hHeld.1
              clear hHeld HS
              go_wp2_with fail
              go_roundw
              case rel => exact ⟨m + 1, by omega, by omega, by go_num, by rw [HR.out], HB⟩
              case measure => simp [intOf]; omega
          · have hmi : ¬ (m : Int) < (300 : Int) := by omega
            have hm300 : m = 300 := by omega
            subst hm300
            clear HK d0
            cases hla : lat L j 300 with
            | true =>
              have HE : Hid (lst L (j + 1) 300 = lst L j 300) := by rw [Hid, HLS.out, hla]; rfl
              have HI : Hid (In1 w hb 300 L (.slice (some ⟨g, 0, none⟩) (lst L j 300).length cl) (j + 1) A' wr) := by
                have := Q.out
                unfold Hid In1
                rw [HE.out]
                exact ⟨this.2.2.2.on hbm.out, ⟨g, cl, rfl⟩, this.1, this.2.1, this.2.2.1.grow hbm.out⟩
              clear Q HLS HLS2 HLA HX HE
              go_wp2_with fail
              go_roundw
              case rel => exact ⟨j + 1, A', by omega, by go_num, HI⟩
              case measure => simp [intOf]; omega
            | false =>
              have HE : Hid (lst L (j + 1) 300 = lst L j 300 ++ [x]) := by rw [Hid, HLS.out, hla]; rfl
              have e0 := ((on2 Q.out.2.2.2.1 hbm.out).cell hB).trans HX.out.1
              have e1 := ((on2 Q.out.2.2.2.1 hbm.out).cell hB).trans HX.out.2.1
              have e2 := ((on2 Q.out.2.2.2.1 hbm.out).cell hB).trans HX.out.2.2
              have HO : Hid (Own w (wr.alloc (.cells #[.string x.1, .int .i64 x.2.1, .int .i64 x.2.2] 27)) 27 3 (.slice (some ⟨g, 0, none⟩) (lst L j 300).length cl) (lst L j 300).length (flatE encI (lst L j 300))) := (Q.out.2.2.2.on hbm.out).on (by go_grown)
              have HV : Hid (∀ v' u', Own w u' 27 3 v' (lst L j 300 ++ [x]).length (flatE encI (lst L j 300 ++ [x])) → (wr.alloc (.cells #[.string x.1, .int .i64 x.2.1, .int .i64 x.2.2] 27)).grownBy u' (some g) → (v'.ownBlock = some g ∨ v'.ownBlock = some (wr.alloc (.cells #[.string x.1, .int .i64 x.2.1, .int .i64 x.2.2] 27)).heap.size) → Hid (In1 w hb 300 L v' (j + 1) A' u')) := by
                intro v' u' h1 h2 h3
                have := Q.out
                unfold Hid In1
                rw [HE.out]
                refine ⟨h1, ?_, this.1, this.2.1, ?_⟩
                · rcases own_cells h1.2 with ⟨_, h0⟩ | ⟨g', c', e, _⟩
                  · simp at h0
                  · exact ⟨g', c', e⟩
                · have k1 := (this.2.2.1.grow hbm.out).grow (u' := wr.alloc (.cells #[.string x.1, .int .i64 x.2.1, .int .i64 x.2.2] 27)) (by go_grown)
                  have k2 := k1.keep (K' := fun b => some g = some b ∨ b = (wr.alloc (.cells #[.string x.1, .int .i64 x.2.1, .int .i64 x.2.2] 27)).heap.size) (fun b q1 q2 => q2.elim (fun q => q) (fun q => by omega))
                  refine (k2.grown h2 (fun b e => .inl e)).keep (fun b _ q => ?_)
                  rcases h3 with h3 | h3
                  · exact .inl (h3.symm.trans q)
                  · rw [h3] at q; exact .inr (by simpa using q.symm)
              clear Q HLS HLS2 HLA HX HE
              go_wp2_with (at_builtin; go_must (refine items_appendL (w0 := w) rfl _ _ rfl _ (lst L j 300) rfl HO.out ⟨wr.heap.size, 0, none⟩ 1 1 [x] rfl rfl (row_one _ x hx1) (by have := lst_length L j 300; simp; omega) ?_); intro v3 w3 hO3 hg3 hw3; have HI := HV.out v3 w3 hO3 hg3 hw3; clear hO3 hg3 hw3)
              go_roundw
              case rel => exact ⟨j + 1, A', by omega, by go_num, HI⟩
              case measure => simp [intOf]; omega
      · have hji : ¬ (j : Int) < (300 : Int) := by omega
        have hj300 : j = 300 := by omega
        subst hj300
        have IN2 : Hid (In2 w hb 300 L (.slice (some ⟨g, 0, none⟩) (lst L 300 300).length cl) (.slice (some ⟨wr.heap.size, 0, none⟩) 0 0) [] A (wr.alloc (.cells #[] 27))) := by
          obtain ⟨h1, _, h3, h4, h5⟩ := hrl.out
          have hg := h1.blk (b := g) rfl
          refine ⟨Own.start w wr _ _ h1.1, ⟨wr.heap.size, 0, rfl⟩, h1.on (by go_grown), h3, h4, fun i j h1 h2 h3 => by simp at h3, (fun x hx => by simp at hx), ?_, ?_⟩
          · refine (h5.keep (K' := fun b => b = wr.heap.size ∨ some g = some b) (fun b q1 q2 => q2.elim (fun q => by omega) (fun q => q))).grow (by go_grown) |>.keep (fun b _ q => q.elim (fun q => .inl (by simpa [Value.ownBlock] using q.symm)) (fun q => .inr q))
          · intro b e1 e2
            simp [Value.ownBlock] at e1 e2
            omega
        clear hrl hAj hbw
        generalize hvl : Value.slice (some ⟨g, 0, none⟩) (lst L 300 300).length cl = vl at IN2
        have HVL : Hid (Value.slice (some ⟨g, 0, none⟩) (lst L 300 300).length cl = vl) := hvl
        clear hvl
        go_wp2_with fail
        go_loopw [8] (fun o wr => ∃ (O A : List It), lenV o = O.length ∧ Hid (In2 w hb 300 L vl o O A wr)) (fun o _ => (lst L 300 300).length - lenV o)
        case atStart => exact ⟨[], A, rfl, IN2⟩
        case round =>
          clear IN2
          obtain ⟨O, A, hlO, hrl⟩ := hrel
          obtain ⟨go, co, huo⟩ : ∃ g c, u8 = .slice (some ⟨g, 0, none⟩) O.length c := hrl.out.2.1
          subst huo
          clear hlO
          have HLN : Hid (O.length + A.length = (lst L 300 300).length ∧ (lst L 300 300).length ≤ 300) := ⟨by rw [← List.length_append]; exact hrl.out.2.2.2.2.1.length_eq, lst_length _ _ _⟩
          have hOl : (O.length : Int) ≤ (300 : Int) := by have := HLN.out; omega
          by_cases hA0 : A.length = 0
          · have hAi : (A.length : Int) = 0 := by omega
            have HE : Hid (O = stabF (lst L 300 300)) := by
              have h := hrl.out
              obtain rfl : A = [] := List.length_eq_zero_iff.1 hA0
              have hp := h.2.2.2.2.1
              rw [List.append_nil] at hp
              exact srt_stab hp h.2.2.2.2.2.1
            have HOk : Hid (∀ x ∈ lst L 300 300, okI x) := lst_ok (by rw [HN.out]; exact Nat.le_refl _) hat.out.2.1
            have HOk2 : Hid (∀ x ∈ O, okI x) := fun x hx => HOk.out x (hrl.out.2.2.2.2.1.mem_iff.1 (List.mem_append_left _ hx))
            have HRL : Hid (RowAt encI 3 okI wr (some ⟨g, 0, none⟩) (lst L 300 300)) := by
              obtain ⟨a', c', e, h, _⟩ := row_of_owns (ok := okI) encI_len hrl.out.2.2.1.2 (by have := HLN.out; omega) HOk.out
              rw [← HVL.out] at e
              obtain ⟨rfl, _⟩ : a' = some ⟨g, 0, none⟩ ∧ c' = cl := by simp at e; exact ⟨e.1.symm, e.2.symm⟩
              exact h
            have HRO : Hid (RowAt encI 3 okI wr (some ⟨go, 0, none⟩) O) := by
              obtain ⟨a', c', e, h, _⟩ := row_of_owns (ok := okI) encI_len hrl.out.1.2 (by have := HLN.out; omega) HOk2.out
              obtain ⟨rfl, _⟩ : a' = some ⟨go, 0, none⟩ ∧ c' = co := by simp at e; exact ⟨e.1.symm, e.2.symm⟩
              exact h
            have HBW : Hid (Below w.heap.size w wr) := hrl.out.1.1
            have HOL : Hid ((lst L 300 300).length = O.length) := by have := HLN.out; unfold Hid; omega
            go_wp2_with (go_at_call 20; refine (Len_step hrl.out.2.2.2.2.2.2.2.1).mono ?_; rintro e w1 ⟨rfl, hb1⟩)
            rw [← HVL.out, HOL.out]
            go_wp2_with (first
              | (go_at_call 23; refine (Sort_calls (some ⟨g, 0, none⟩) O.length cl (lst L 300 300) _ HOL.out (HRL.out.on hb1) (by omega)).mono ?_; rintro e w2 ⟨⟨a2, c2, rfl, R2'⟩, hb2'⟩; have R2 : Hid (RowAt encI 3 okI w2 a2 O) := (by rw [HE.out]; exact R2'); have hb2 : Hid (Below w1.heap.size w1 w2) := hb2'; clear R2' hb2')
              | (go_at_call 21; refine (same_calls (some ⟨go, 0, none⟩) a2 O.length co c2 O _ rfl (HRO.out.on (on2 hb1 hb2.out)) R2 (by omega)).mono ?_; rintro e w3 ⟨rfl, hb3⟩))
            go_ret
            exact ⟨rfl, on2 HBW.out (on2 hb1 (on2 hb2.out hb3))⟩
          · have hAi : ¬ (A.length : Int) = 0 := by omega
            have hAp : (0 : Int) < (A.length : Int) := by omega
            have HBW : Hid (Below w.heap.size w wr) := hrl.out.1.1
            have HBK : Hid (∀ b, ((Value.slice (some ⟨go, 0, none⟩) O.length co).ownBlock = some b ∨ vl.ownBlock = some b) → b < wr.heap.size) := fun b h => h.elim (fun q => hrl.out.1.blk q) (fun q => hrl.out.2.2.1.blk q)
            go_wp2_with (first
              | (go_at_call 20; refine (Len_step hrl.out.2.2.2.2.2.2.2.1).mono ?_; rintro e w1 ⟨rfl, hb1⟩)
              | (go_at_call 13; refine (Pop_step (hrl.out.2.2.2.2.2.2.2.1.grow hb1) (on2 HBW.out hb1).size (fun b h => Nat.lt_of_lt_of_le (HBK.out b h) hb1.size) (by have := HLN.out; omega) hrl.out.2.2.2.1 (by omega)).mono ?_; rintro e w2 ⟨A', ⟨rfl, q1, q2⟩, q3, q4⟩; have Q : Hid (PoQ w hb (.slice (some ⟨go, 0, none⟩) O.length co) vl O A A' (lst L 300 300) (at_ A 0) w2) := PoQ.mk' hrl.out (by omega) q1 q2 q3 ((hrl.out.1.on hb1).turn q4 (fun b h => .inl h)) ((hrl.out.2.2.1.on hb1).turn q4 (fun b h => .inr h)); clear q1 q2 q3 q4 hrl; generalize at_ A 0 = x at Q)
              | (go_at_call 19; refine (All_step (Q.out.hp.grow (by go_grown)) (by have := HLN.out; have := Q.out.len; omega)).mono ?_; rintro e w3 ⟨a3, c3, rfl, R3', hb3', _⟩; have R3 : Hid (RowAt encI 3 okI w3 a3 (stabF A')) := R3'; have b0 := (hb3'.cell (p := ⟨w2.heap.size, 0, none⟩) (by simp)).trans (show _ = some (Value.string x.1) by simp [go_sem]); have b1 := (hb3'.cell (p := ⟨w2.heap.size, 1, none⟩) (by simp)).trans (show _ = some (Value.int .i64 x.2.1) by simp [go_sem]); have b2 := (hb3'.cell (p := ⟨w2.heap.size, 2, none⟩) (by simp)).trans (show _ = some (Value.int .i64 x.2.2) by simp [go_sem]); have hz3 : w2.heap.size < w3.heap.size := (by have := hb3'.size; simp at this; omega); have HB3 : Hid (Below w2.heap.size w2 w3) := on2 (by go_grown) hb3'; clear R3' hb3'))
            have HX : Hid (w3.cell? ⟨w2.heap.size, 0, none⟩ = some (.string x.1) ∧ w3.cell? ⟨w2.heap.size, 1, none⟩ = some (.int .i64 x.2.1) ∧ w3.cell? ⟨w2.heap.size, 2, none⟩ = some (.int .i64 x.2.2)) := ⟨b0, b1, b2⟩
            clear b0 b1 b2
            have HA' : A'.length < 1000000000 := by have := HLN.out; have := Q.out.len; omega
            go_loopw [12] (fun k wr => ∃ m : Nat, m ≤ A'.length ∧ k = .int .i64 m ∧ Hid (Below w3.heap.size w3 wr)) (fun k _ => A'.length - (intOf k).toNat)
            case atStart => exact ⟨0, Nat.zero_le _, rfl, Below.refl _ _⟩
            case round =>
              obtain ⟨m, hm, rfl, hbm⟩ := hrel
              by_cases hmn : m < A'.length
              · have hmi : (m : Int) < (A'.length : Int) := by omega
                have hmi0 : (0 : Int) ≤ (m : Int) := by omega
                obtain ⟨C, o, rfl, hC, y0, y1, y2, _⟩ := R3.out.three (i := m) (by rw [stabF_length]; exact hmn)
                have HAH : Hid (ahead x (at_ (stabF A') m) = true) := Q.out.ah _ ((stabF_perm A').mem_iff.1 (by rw [at_get (by rw [stabF_length]; exact hmn)]; exact List.getElem_mem _))
                have HS : Hid (∀ {u : World}, Below w3.heap.size w3 u → BxS w3 C o m w2.heap.size x (at_ (stabF A') m) u) := fun hb => ⟨hb, (hb.cell hC).trans y0, (hb.cell hC).trans y1, (hb.cell hC).trans y2, (hb.cell hz3).trans HX.out.1, (hb.cell hz3).trans HX.out.2.1, (hb.cell hz3).trans HX.out.2.2⟩
                clear y0 y1 y2
                generalize at_ (stabF A') m = y at HS HAH
                go_wp2_with fail
                refine wp_region_noPanic ?_
                refine wp_region_held_drew (S := BxS w3 C o m w2.heap.size x y) (by kernel_rfl) (HS.out hbm.out.drew) (fun hHeld => ?_)
                refine wpAnyH_take (i := 0) (v := ?vbq0) rfl (by kernel_rfl) (by kernel_rfl) (by kernel_rfl) (fun _ _ _ h => h) (Or.inl ⟨by rfl, ?hybq0⟩) (by assumption) ?restbq0
                case hybq0 => (intro u hu; obtain ⟨_, _, _, _, _, _, _⟩ := hu; go_simp; try with_reducible rfl)
                try simp only [Act.put, List.setIfInBounds_toArray, List.set_cons_zero, List.set_cons_succ, List.getElem_toArray, List.getElem_cons_zero, List.getElem_cons_succ]
                refine wpAnyH_take (i := 1) (v := ?vbq1) rfl (by kernel_rfl) (by kernel_rfl) (by kernel_rfl) (fun _ _ _ h => h) (Or.inl ⟨by rfl, ?hybq1⟩) (by assumption) ?restbq1
                case hybq1 => (intro u hu; obtain ⟨_, _, _, _, _, _, _⟩ := hu; go_simp; try with_reducible rfl)
                try simp only [Act.put, List.setIfInBounds_toArray, List.set_cons_zero, List.set_cons_succ, List.getElem_toArray, List.getElem_cons_zero, List.getElem_cons_succ]
                refine wpAnyH_take (i := 2) (v := ?vbq2) rfl (by kernel_rfl) (by kernel_rfl) (by kernel_rfl) (fun _ _ _ h => h) (Or.inl ⟨by rfl, ?hybq2⟩) (by assumption) ?restbq2
                case hybq2 => (intro u hu; obtain ⟨_, _, _, _, _, _, _⟩ := hu; go_simp; try with_reducible rfl)
                try simp only [Act.put, List.setIfInBounds_toArray, List.set_cons_zero, List.set_cons_succ, List.getElem_toArray, List.getElem_cons_zero, List.getElem_cons_succ]
                refine wpAnyH_take (i := 3) (v := ?vbq3) rfl (by kernel_rfl) (by kernel_rfl) (by kernel_rfl) (fun _ _ _ h => h) (Or.inl ⟨by rfl, ?hybq3⟩) (by assumption) ?restbq3
                case hybq3 => (intro u hu; obtain ⟨_, _, _, _, _, _, _⟩ := hu; go_simp; try with_reducible rfl)
                try simp only [Act.put, List.setIfInBounds_toArray, List.set_cons_zero, List.set_cons_succ, List.getElem_toArray, List.getElem_cons_zero, List.getElem_cons_succ]
                refine wpAnyH_take (i := 4) (v := ?vbq4) rfl (by kernel_rfl) (by kernel_rfl) (by kernel_rfl) (fun _ _ _ h => h) (Or.inl ⟨by rfl, ?hybq4⟩) (by assumption) ?restbq4
                case hybq4 => (intro u hu; obtain ⟨_, _, _, _, _, _, _⟩ := hu; go_simp; try with_reducible rfl)
                try simp only [Act.put, List.setIfInBounds_toArray, List.set_cons_zero, List.set_cons_succ, List.getElem_toArray, List.getElem_cons_zero, List.getElem_cons_succ]
                refine wpAnyH_ready (rs := [5]) (by kernel_rfl) (by simp) ?_
                refine AllReadyH.cons rfl (fun K hK => ?_) AllReadyH.nil
                go_simp
                refine (Ahead_as x y _ HAH.out).mono ?_
                rintro e w4 ⟨rfl, hb4⟩
                go_wp2_with fail
                refine hK.out _ _ (HS.out (on2 hHeld.1 hb4)) (fun hHeld2 => ?_)
                clear hK K hHeld
                have hHeld := hHeld2
                clear hHeld2
                try simp only [Act.put, List.setIfInBounds_toArray, List.set_cons_zero, List.set_cons_succ, List.getElem_toArray, List.getElem_cons_zero, List.getElem_cons_succ]
                refine wpAnyH_take (i := 6) (v := ?vbq6) rfl (by kernel_rfl) (by kernel_rfl) (by kernel_rfl) (fun _ _ _ h => h) (Or.inl ⟨by rfl, ?hybq6⟩) (by assumption) ?restbq6
                case hybq6 => (intro u hu; obtain ⟨_, _, _, _, _, _, _⟩ := hu; go_simp; try with_reducible rfl)
                try simp only [Act.put, List.setIfInBounds_toArray, List.set_cons_zero, List.set_cons_succ, List.getElem_toArray, List.getElem_cons_zero, List.getElem_cons_succ]
                refine wpAnyH_done (by kernel_rfl) ?_ _
                refine NoPanic.normal ?_
                have HB : Hid (Below w3.heap.size w3 w4) := hHeld.1
                clear hHeld HS
                go_wp2_with fail
                go_roundw
                case rel => exact ⟨m + 1, by omega, by go_num, HB⟩
                case measure => simp [intOf]; omega
              · have hmi : ¬ (m : Int) < (A'.length : Int) := by omega
                have e0 := (hbm.out.cell hz3).trans HX.out.1
                have e1 := (hbm.out.cell hz3).trans HX.out.2.1
                have e2 := (hbm.out.cell hz3).trans HX.out.2.2
                have HBM : Hid (Below w2.heap.size w2 wr) := on2 HB3.out hbm.out
                clear HX R3 hbm HB3
                go_wp2_with (at_builtin; go_must (refine items_appendL (w0 := w) rfl _ _ rfl _ O rfl ((Q.out.oo.on HBM.out).on (by go_grown)) ⟨wr.heap.size, 0, none⟩ 1 1 [x] rfl rfl (row_one _ x Q.out.ok) (by have := HLN.out; simp; omega) ?_); intro v5 w5 hO5 hg5 hw5; have HI : Hid (In2 w hb 300 L vl v5 (O ++ [x]) A' w5) := Q.out.fin HBM.out hO5 hg5 hw5; clear hO5 hg5 hw5)
                have HLV : Hid (lenV v5 = O.length + 1) := by obtain ⟨_, _, e⟩ := HI.out.2.1; rw [e]; simp [lenV, Hid]
                go_roundw
                case rel => exact ⟨O ++ [x], A', by rw [HLV.out]; simp, HI⟩
                case measure => have h1 := HLV.out; have h2 := HLN.out; rw [h1]; simp only [lenV]; omega
theorem walk (a : Option Addr) (cap : Nat) (L : List It) (w : World) (h1 : RowAt encI 3 okI w a L) (h2 : L.length * 32 ≤ 140737488351232) (_h3 : a = none → cap = 0) (h4 : L.length ≤ cap) :
    Calls Try.prog 5 #[.slice a L.length cap] w fun e w' => e = .returned (.bool true) ∧ Below w.heap.size w w' :=
  core a L.length cap L w rfl h1 h4 (by omega)

theorem reads (os : Os) {H : Type} (enc : TypeId × Value → H) : ∃ places, DataW.whole enc Try.prog ((World.holding Try.prog os ⟨#[], #[], []⟩).forCall (fun _ _ => 0) ⟨#[], #[.slice none 0 0], []⟩).memory Try.f5.params.toList Rows.heapOutSpec.vars false #[(.slice none 0 0 : Value)].toList 8 = some ([.nil], [], places) :=
  ⟨[], by kernel_rfl⟩

theorem params_ok : ∀ t ∈ Try.f5.params.toList, Try.prog.readableRec t = true ∧ t < Try.prog.types.size := by
  rw [Try.params5]
  have hall : ([25].all fun u => Try.prog.readableRec u && decide (u < Try.prog.types.size)) = true := by kernel_rfl
  intro t ht
  simpa using List.all_eq_true.1 hall t (by simpa using ht)

set_option maxRecDepth 100000 in
theorem contract (H : Type) (enc : TypeId × Value → H) (W : World) (base : Nat) (args : Array Value) (ds gs : List (DataW H)) (before : List MemPlace)
    (hval : ∀ (j : Nat) t v, Try.f5.params[j]? = some t → args[j]? = some v → Value.okWide Try.prog W .any base t v)
    (hW : DataW.Whole enc Try.prog Try.f5.params.toList Rows.heapOutSpec.vars false W args.toList ds gs before) (hsz : (DataW.weightsEach Try.prog (Try.f5.params.toList ++ Rows.heapOutSpec.plain.varTypes Try.prog) (ds ++ gs)).all (· ≤ reachBytes) = true) :
    Calls Try.prog 5 args W fun e W' => ∃ v, e = .returned v ∧ Rows.heapOutSpec.post enc Try.prog Try.f5 false true false false W args v W' := by
  have hW' := hW
  obtain ⟨p, q, hA0, hV, rfl, hfz, hnd⟩ := hW
  have hA : DataW.TrodAll enc Try.prog W 0 (fun _ => true) true Try.f5.params.toList args.toList ds p := hA0
  rw [Try.params5] at hA hval
  obtain ⟨v0, vs0, d0, ds0, p0, q0, hargs, rfl, rfl, h0, r0⟩ := trodAll_cons hA
  obtain ⟨rfl, rfl, rfl⟩ := trodAll_nil r0
  obtain rfl : args = #[v0] := by cases args; simp_all
  obtain ⟨rfl, rfl⟩ := trodVars_none hV
  have l0 := light_arg hsz (j := 0) (t := 25) (by rw [Try.params5]; rfl) rfl
  obtain ⟨x0, y0, z0, e0⟩ := okWide_slice Try.underlying25 (hval 0 25 v0 rfl rfl)
  subst e0
  obtain ⟨fu0, hf0⟩ := h0
  obtain ⟨a0, L0, c0, e0, at0, b0, g0, o0⟩ := open_items (v := .slice x0 y0 z0) hf0 l0
  obtain ⟨rfl, rfl, rfl⟩ : x0 = a0 ∧ y0 = L0.length ∧ z0 = c0 := by simpa using e0
  refine (walk x0 z0 L0 W at0 b0 g0 o0).mono fun e W' ⟨he, hb⟩ => ?_
  subst he
  exact ⟨_, rfl, law_post laidOut params_ok rfl (tb := 4) (by kernel_rfl) Try.underlying4 rfl hW' hb⟩

set_option maxRecDepth 100000 in
theorem lifted (os : Os) (started : os.Started) (H : Type) (enc : TypeId × Value → H) (F : Stop.Interp) :
    ReturnsInHanded {} Try.checked os 5 .any ((OpenSpec.ofChange Rows.heapOutSpec).preRow enc Try.prog Try.f5 Rows.heapOutRow.domain false Rows.heapOutRow.laid) (((OpenSpec.ofChange Rows.heapOutSpec).at F).post enc Try.prog Try.f5 false true false false) := by
  obtain ⟨places, hx⟩ := reads os enc
  refine returnsInHanded_of_row (C := Try.checked) (s := (OpenSpec.ofChange Rows.heapOutSpec)) own started (by kernel_rfl) Try.func5
    (witness_row_at (enc := enc) (C := Try.checked) false (World.holding Try.prog os ⟨#[], #[], []⟩) #[.slice none 0 0] rfl (by kernel_rfl) (by kernel_rfl) (by kernel_rfl)
      (OpenSpec.preRow_of_cond 8 hx (by kernel_rfl) (fun k hk => by cases hk) (by kernel_rfl) ⟨[], rfl, List.Pairwise.nil, fun _ _ h => by cases h⟩)) ?_
  intro W base args ds gs before hval hW _ _ hsz _ _ _
  exact contract H enc W base args ds gs before hval hW hsz

theorem said : Rows.HeapOutSaid :=
  OpenClaim.holds_of_cond 5 Try.f5 rfl rfl rfl rfl rfl rfl rfl ⟨rfl, rfl, rfl, rfl, rfl⟩ rfl rfl rfl rfl rfl (by kernel_rfl) Try.func5 (by kernel_rfl)
    (of_decide_eq_true (by kernel_rfl)) (by unfold Func.isWrapper; first | (rw [if_pos (by decide +kernel)]; kernel_rfl) | (rw [if_neg (by decide +kernel)]; exact ⟨rfl, rfl⟩))
    (fun os started H enc _ F => by rw [OpenClaim.pre_eq_preRow]; exact lifted os started H enc F)
end Go.Proofs.Ytgncpjplofacfaa.heapOut
namespace Go.Proofs.Ytgncpjplofacfaa
theorem heapOut_holds : Rows.HeapOutSaid := heapOut.said
end Go.Proofs.Ytgncpjplofacfaa
