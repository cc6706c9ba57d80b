/- slices.Index and slices.Contains at texts and at numbers tell whether it is in a list, and change nothing; slices.IndexFunc and slices.ContainsFunc at numbers, over a function that answers as is said of it. Condition: the slice lies as is said of it. -/
import Derived.Test.YtgikfenllgldoaaGreatQ09
set_option linter.unusedSimpArgs false
set_option maxRecDepth 100000
set_option maxHeartbeats 32000000
namespace Go.Proofs.YtgikfenllgldoaaGreat
open Go.Proofs.Tryz
open Go.RowKit
theorem ab5 (a:Option Addr) (n cap:Nat) (A:Where) (L:List ByteArray) (s:ByteArray) (w:World) (hL:Hid (ag au 1 16 A w a n cap L)):Calls prog 220 #[.slice a n cap,.string s] w fun e w'=>(∃ k:Int,e=.returned (.int .i64 k)/\hasB ay L s=decide (0<=k))/\w'=w:=by
 have hn:Hid (L.length=n):=hL.out.1
 have hlen:=hL.out.len (by decide)
 go_enter func220,ntmps220
 go_wp2_with fail
 go_loop [8] (fun i=>∃ k:Nat,k<=n/\i=.int .i64 k/\Hid (hasB ay (L.take k) s=false)) (fun i=>n - (intOf i).toNat)
 case atStart=>exact ⟨0,Nat.zero_le _,rfl,rfl⟩
 case round =>
  obtain ⟨k,hk,rfl,hno⟩:=hrel
  by_cases hlt:k<n
  ·have hltz:(k:Int)<(n:Int):=by omega
   have hkl:k<L.length:=by rw [hn.out];exact hlt
   have HN:Hid (hasB ay (L.take (k+1)) s=(hasB ay (L.take k) s || ay (L.getD k default) s)):=XU _ _ _ hkl
   have HF:Hid (ay (L.getD k default) s=true->hasB ay L s=true):=Yk _ _ _ hkl
   obtain ⟨B,off,rfl,hB,_,cs,hr,hv⟩:=hL.out.get hlt
   obtain ⟨rfl,_⟩:=hr
   have d0:=hv 0 _ rfl
   simp only [Nat.mul_one,Nat.add_zero] at d0
   clear hv
   generalize L.getD k default=x at d0 HN HF
   cases he:ay x s
   ·have he':(s.toList == x.toList)=false:=by rw [BEq.comm];exact he
    have nP:Hid (hasB ay (L.take (k+1)) s=false):=by rw [Hid,HN.out,hno.out,he];rfl
    clear HN HF he
    go_wp2_with fail
    go_round
    case rel=>exact ⟨k+1,by omega,by go_num,nP⟩
    case measure=>simp [intOf];omega
   ·have he':(s.toList == x.toList)=true:=by rw [BEq.comm];exact he
    have HT:Hid (hasB ay L s=true):=HF.out he
    clear HN HF he
    go_wp2_with fail
    go_ret
    exact ⟨⟨k,rfl,by rw [HT.out];simp⟩,rfl⟩
  ·have hk':L.take k=L:=List.take_of_length_le (by rw [hn.out];omega)
   rw [hk'] at hno
   have hlz:¬ ((k:Int)<(n:Int)):=by omega
   go_wp2_with fail
   go_ret
   exact ⟨⟨-1,rfl,by rw [hno.out];simp⟩,rfl⟩
theorem Ub (a:Option Addr) (n cap:Nat) (A:Where) (L:List Int) (s:Int) (w:World) (hL:Hid (ag aC 1 8 A w a n cap L)):Calls prog 195 #[.slice a n cap,.int .i64 s] w fun e w'=>(∃ k:Int,e=.returned (.int .i64 k)/\hasB dM L s=decide (0<=k))/\w'=w:=by
 have hn:Hid (L.length=n):=hL.out.1
 have hlen:=hL.out.len (by decide)
 go_enter func195,ntmps195
 go_wp2_with fail
 go_loop [8] (fun i=>∃ k:Nat,k<=n/\i=.int .i64 k/\Hid (hasB dM (L.take k) s=false)) (fun i=>n - (intOf i).toNat)
 case atStart=>exact ⟨0,Nat.zero_le _,rfl,rfl⟩
 case round =>
  obtain ⟨k,hk,rfl,hno⟩:=hrel
  by_cases hlt:k<n
  ·have hltz:(k:Int)<(n:Int):=by omega
   have hkl:k<L.length:=by rw [hn.out];exact hlt
   have HN:Hid (hasB dM (L.take (k+1)) s=(hasB dM (L.take k) s || dM (L.getD k default) s)):=XU _ _ _ hkl
   have HF:Hid (dM (L.getD k default) s=true->hasB dM L s=true):=Yk _ _ _ hkl
   obtain ⟨B,off,rfl,hB,_,cs,hr,hv⟩:=hL.out.get hlt
   obtain rfl:=hr
   have d0:=hv 0 _ rfl
   simp only [Nat.mul_one,Nat.add_zero] at d0
   clear hv
   generalize L.getD k default=x at d0 HN HF
   cases he:dM x s
   ·have he':¬ s=x:=fun e=>by rw [e] at he;simp [dM] at he
    have nP:Hid (hasB dM (L.take (k+1)) s=false):=by rw [Hid,HN.out,hno.out,he];rfl
    clear HN HF he
    go_wp2_with fail
    go_round
    case rel=>exact ⟨k+1,by omega,by go_num,nP⟩
    case measure=>simp [intOf];omega
   ·obtain rfl:x=s:=by simpa [dM] using he
    have HT:Hid (hasB dM L x=true):=HF.out he
    clear HN HF he
    go_wp2_with fail
    go_ret
    exact ⟨⟨k,rfl,by rw [HT.out];simp⟩,rfl⟩
  ·have hk':L.take k=L:=List.take_of_length_le (by rw [hn.out];omega)
   rw [hk'] at hno
   have hlz:¬ ((k:Int)<(n:Int)):=by omega
   go_wp2_with fail
   go_ret
   exact ⟨⟨-1,rfl,by rw [hno.out];simp⟩,rfl⟩
theorem Iw (a:Option Addr) (n cap:Nat) (A:Where) (L:List Int) (s:Int) (w:World) (hL:Hid (ag aC 1 8 A w a n cap L)):Calls prog 172 #[.slice a n cap,.int .i64 s] w fun e w'=>e=.returned (.bool (hasB dM L s))/\w'=w:=by
 have hI:=Ub a n cap A L s w hL
 generalize hasB dM L s=b at hI |-
 go_enter func172,ntmps172
 go_wp2_with fail
 refine hI.mono ?_
 rintro e w' ⟨⟨k,rfl,rfl⟩,rfl⟩
 by_cases h0:0<=k
 ·go_wp2_with fail
  go_ret
  exact ⟨by simp [h0],rfl⟩
 ·go_wp2_with fail
  go_ret
  exact ⟨by simp [h0],rfl⟩
def DZ (g:Nat) (lb:Array Value) (p:Int->Bool) (w:World):Prop :=
 ∀ (W:World) (x:Int),Below w.heap.size w W->Calls prog g (#[.int .i64 x]++lb) W fun e w'=>e=.returned (.bool (p x))/\Below W.heap.size W w'
theorem Le (p:Int->Bool) (L:List Int) {k:Nat} (hk:k<L.length):(L.take (k+1)).any p=((L.take k).any p || p (L.getD k default)):=by
 rw [<- nH hk];simp
theorem Hq (p:Int->Bool) (L:List Int) {k:Nat} (hk:k<L.length) (h:p (L.getD k default)=true):L.any p=true:=by
 rw [List.any_eq_true]
 exact ⟨L.getD k default,by rw [gK _ _ hk];exact List.getElem_mem hk,h⟩
theorem zGw (a:Option Addr) (n cap:Nat) (A:Where) (L:List Int) (w:World) (hL:Hid (ag aC 1 8 A w a n cap L)) (p:Int->Bool) (g:Nat) (lb:Array Value) (eg:∀ args w,(callFunc g args).run prog w=.ok (.enter g args) w) (hp:Hid (DZ g lb p w)) :
  Calls prog 194 #[.slice a n cap,.func (.func g) #[] lb] w fun e w'=>(∃ k:Int,e=.returned (.int .i64 k)/\L.any p=decide (0<=k))/\Below w.heap.size w w':=by
 have hn:Hid (L.length=n):=hL.out.1
 have hlen:=hL.out.len (by decide)
 go_enter func194,ntmps194
 go_wp2_with fail
 go_loopw [8] (fun i wr=>∃ k:Nat,k<=n/\i=.int .i64 k/\Below w.heap.size w wr/\Hid ((L.take k).any p=false)) (fun i _=>n - (intOf i).toNat)
 case atStart=>exact ⟨0,Nat.zero_le _,rfl,Below.refl _ _,rfl⟩
 case round =>
  obtain ⟨k,hk,rfl,hbel,hno⟩:=hrel
  by_cases hlt:k<n
  ·have hltz:(k:Int)<(n:Int):=by omega
   have hkl:k<L.length:=by rw [hn.out];exact hlt
   have HN:Hid ((L.take (k+1)).any p=((L.take k).any p || p (L.getD k default))):=Le _ _ hkl
   have HF:Hid (p (L.getD k default)=true->L.any p=true):=Hq _ _ hkl
   obtain ⟨B,off,rfl,hB,_,cs,hr,hv⟩:=hL.out.get hlt
   obtain rfl:=hr
   have d0:=(hbel.cell (p:=⟨B,off+k*1+0,none⟩) hB).trans (hv 0 _ rfl)
   simp only [Nat.mul_one,Nat.add_zero] at d0
   clear hv
   have hcall:=hp.out wr (L.getD k default) hbel
   generalize L.getD k default=x at d0 HN HF hcall
   cases he:p x
   ·have nP:Hid ((L.take (k+1)).any p=false):=by rw [Hid,HN.out,hno.out,he];rfl
    rw [he] at hcall
    clear HN HF he
    go_wp2_with fail
    refine hcall.mono ?_
    rintro e w' ⟨rfl,hb'⟩
    go_wp2_with fail
    go_roundw
    case rel=>exact ⟨k+1,by omega,by go_num,ah hbel hb',nP⟩
    case measure=>simp [intOf];omega
   ·have HT:Hid (L.any p=true):=HF.out he
    rw [he] at hcall
    clear HN HF he
    go_wp2_with fail
    refine hcall.mono ?_
    rintro e w' ⟨rfl,hb'⟩
    go_wp2_with fail
    go_ret
    exact ⟨⟨k,rfl,by rw [HT.out];simp⟩,ah hbel hb'⟩
  ·have hk':L.take k=L:=List.take_of_length_le (by rw [hn.out];omega)
   rw [hk'] at hno
   have hlz:¬ ((k:Int)<(n:Int)):=by omega
   go_wp2_with fail
   go_ret
   exact ⟨⟨-1,rfl,by rw [hno.out];simp⟩,hbel⟩
theorem zDq (a:Option Addr) (n cap:Nat) (A:Where) (L:List Int) (w:World) (hL:Hid (ag aC 1 8 A w a n cap L)) (p:Int->Bool) (g:Nat) (lb:Array Value) (eg:∀ args w,(callFunc g args).run prog w=.ok (.enter g args) w) (hp:Hid (DZ g lb p w)) :
  Calls prog 170 #[.slice a n cap,.func (.func g) #[] lb] w fun e w'=>e=.returned (.bool (L.any p))/\Below w.heap.size w w':=by
 have hI:=zGw a n cap A L w hL p g lb eg hp
 generalize L.any p=b at hI |-
 go_enter func170,ntmps170
 go_wp2_with fail
 refine hI.mono ?_
 rintro e w1 ⟨⟨k,rfl,rfl⟩,hb⟩
 by_cases h0:0<=k
 ·go_wp2_with fail
  go_ret
  exact ⟨by simp [h0],hb⟩
 ·go_wp2_with fail
  go_ret
  exact ⟨by simp [h0],hb⟩
end Go.Proofs.YtgikfenllgldoaaGreat
