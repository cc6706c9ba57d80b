/- Functions of the program, each walked under the conditions that its theorem names. -/
import Derived.Test.YtgikfenllgldoaaGreatQ02
set_option linter.unusedSimpArgs false
set_option maxRecDepth 100000
set_option maxHeartbeats 32000000
namespace Go.Proofs.YtgikfenllgldoaaGreat
open Go.Proofs.Tryz
open Go.RowKit
abbrev Hd:=Option Addr×Nat×Nat
def ak:bI aG:=bf au au
theorem ak.ae:aJ ak 2:=aJ.pair au.ae (au.ae)
def aU:bI Ask:=bf au (bf aC (bN au 1 16))
theorem aU.ae:aJ aU 3:=aJ.pair au.ae (aJ.pair aC.ae ((bN.ae au.ae)))
abbrev kz:=Int×Int×Int
def jh:bI kz:=bf aC (bf aC aC)
theorem jh.ae:aJ jh 3:=aJ.pair aC.ae (aJ.pair aC.ae (aC.ae))
def dH:bI jg:=bf au (bf au aC)
theorem dH.ae:aJ dH 3:=aJ.pair au.ae (aJ.pair au.ae (aC.ae))
def eY:bI gN:=bf au (bf au (bf kR aC))
theorem eY.ae:aJ eY 4:=aJ.pair au.ae (aJ.pair au.ae (aJ.pair kR.ae (aC.ae)))
abbrev bP:=List Ask×ByteArray
def bT:bI bP:=bf (bN aU 3 48) au
theorem bT.ae:aJ bT 2:=aJ.pair (bN.ae aU.ae) (au.ae)
abbrev vF:=List Ask×Int
def dA:bI vF:=bf (bN aU 3 48) aC
theorem dA.ae:aJ dA 2:=aJ.pair (bN.ae aU.ae) (aC.ae)
abbrev cz:=ByteArray×Int×Int×List Ask
def cK:bI cz:=bf au (bf aC (bf aC (bN aU 3 48)))
theorem cK.ae:aJ cK 4:=aJ.pair au.ae (aJ.pair aC.ae (aJ.pair aC.ae ((bN.ae aU.ae))))
abbrev aB:=ByteArray×Int×List aG×kz×List gN×List Ask×List vF×List Int×List bP×List bP×List cz×List ByteArray×ByteArray×ByteArray
def aj:bI aB:=bf au (bf aC (bf (bN ak 2 32) (bf jh (bf (bN eY 4 48) (bf (bN aU 3 48) (bf (bN dA 2 32) (bf (bN aC 1 8) (bf (bN bT 2 40) (bf (bN bT 2 40) (bf (bN cK 4 56) (bf (bN au 1 16) (bf au au))))))))))))
theorem aj.ae:aJ aj 16:=aJ.pair au.ae (aJ.pair aC.ae (aJ.pair (bN.ae ak.ae) (aJ.pair jh.ae (aJ.pair (bN.ae eY.ae) (aJ.pair (bN.ae aU.ae) (aJ.pair (bN.ae dA.ae) (aJ.pair (bN.ae aC.ae) (aJ.pair (bN.ae bT.ae) (aJ.pair (bN.ae bT.ae) (aJ.pair (bN.ae cK.ae) (aJ.pair (bN.ae au.ae) (aJ.pair au.ae (au.ae)))))))))))))
abbrev aX:=ByteArray×List aG×List jg×Bool×kz×Int×Int
def av:bI aX:=bf au (bf (bN ak 2 32) (bf (bN dH 3 40) (bf kR (bf jh (bf aC aC)))))
theorem av.ae:aJ av 9:=aJ.pair au.ae (aJ.pair (bN.ae ak.ae) (aJ.pair (bN.ae dH.ae) (aJ.pair kR.ae (aJ.pair jh.ae (aJ.pair aC.ae (aC.ae))))))
abbrev aD:=ByteArray×Int×ByteArray×List Ask×ByteArray
def ai:bI aD:=bf au (bf aC (bf au (bf (bN aU 3 48) au)))
theorem ai.ae:aJ ai 5:=aJ.pair au.ae (aJ.pair aC.ae (aJ.pair au.ae (aJ.pair (bN.ae aU.ae) (au.ae))))
abbrev aT:=ByteArray×Int×ByteArray×ByteArray
def aA:bI aT:=bf au (bf aC (bf au au))
theorem aA.ae:aJ aA 4:=aJ.pair au.ae (aJ.pair aC.ae (aJ.pair au.ae (au.ae)))
abbrev dI:=ByteArray×Bool
def aH:bI dI:=bf au kR
theorem aH.ae:aJ aH 2:=aJ.pair au.ae (kR.ae)
abbrev kW:=ByteArray×List Ask×Int
def aI:bI kW:=bf au (bf (bN aU 3 48) aC)
theorem aI.ae:aJ aI 3:=aJ.pair au.ae (aJ.pair (bN.ae aU.ae) (aC.ae))
abbrev aP:=List aB×List aX×List aD×List aT×List dI×List kW
def aK:bI aP:=bf (bN aj 16 296) (bf (bN av 9 112) (bf (bN ai 5 80) (bf (bN aA 4 56) (bf (bN aH 2 24) (bN aI 3 48)))))
theorem aK.ae:aJ aK 6:=aJ.pair (bN.ae aj.ae) (aJ.pair (bN.ae av.ae) (aJ.pair (bN.ae ai.ae) (aJ.pair (bN.ae aA.ae) (aJ.pair (bN.ae aH.ae) ((bN.ae aI.ae))))))
theorem ak.out {A:Where} {w:World} {cs:List Value} {x:aG} (h:ak A w cs x):cs=[.string x.1,.string x.2]/\x.1.size<=140737488355328/\x.2.size<=140737488355328:=by
 obtain ⟨pM,pJ,iX,jd,iZ⟩:=h
 obtain ⟨jy,jM⟩:=jd
 obtain ⟨je,pI⟩:=iZ
 exact ⟨by rw [iX,jy,je];rfl,jM,pI⟩
theorem aU.out {A:Where} {w:World} {cs:List Value} {x:Ask} (h:aU A w cs x):∃ h2:Hd,cs=[.string x.1,.int .i64 x.2.1,.slice h2.1 h2.2.1 h2.2.2]/\x.1.size<=140737488355328/\ag au 1 16 A w h2.1 h2.2.1 h2.2.2 x.2.2:=by
 obtain ⟨pM,pJ,iX,jd,iZ⟩:=h
 obtain ⟨jy,jM⟩:=jd
 obtain ⟨uD,uu,kH,kP,kN⟩:=iZ
 have je:=kP
 obtain ⟨Ar,zx,Ai,lL,uo⟩:=kN
 exact ⟨(Ar,zx,Ai),by rw [iX,jy,kH,je,lL];rfl,jM,uo⟩
theorem aU.mk {A:Where} {w:World} {x:Ask} {h2:Hd} (p0:x.1.size<=140737488355328) (p1:ag au 1 16 A w h2.1 h2.2.1 h2.2.2 x.2.2):aU A w [.string x.1,.int .i64 x.2.1,.slice h2.1 h2.2.1 h2.2.2] x :=
 ⟨_,_,rfl,⟨rfl,p0⟩,⟨_,_,rfl,rfl,⟨h2.1,h2.2.1,h2.2.2,rfl,p1⟩⟩⟩
theorem jh.out {A:Where} {w:World} {cs:List Value} {x:kz} (h:jh A w cs x):cs=[.int .i64 x.1,.int .i64 x.2.1,.int .i64 x.2.2]:=by
 obtain ⟨pM,pJ,iX,jd,iZ⟩:=h
 have jy:=jd
 obtain ⟨uD,uu,kH,kP,kN⟩:=iZ
 have je:=kP
 have lL:=kN
 rw [iX,jy,kH,je,lL];rfl
theorem jh.mk {A:Where} {w:World} {x:kz}  : jh A w [.int .i64 x.1,.int .i64 x.2.1,.int .i64 x.2.2] x :=
 ⟨_,_,rfl,rfl,⟨_,_,rfl,rfl,rfl⟩⟩
theorem dH.out {A:Where} {w:World} {cs:List Value} {x:jg} (h:dH A w cs x):cs=[.string x.1,.string x.2.1,.int .i64 x.2.2]/\x.1.size<=140737488355328/\x.2.1.size<=140737488355328:=by
 obtain ⟨pM,pJ,iX,jd,iZ⟩:=h
 obtain ⟨jy,jM⟩:=jd
 obtain ⟨uD,uu,kH,kP,kN⟩:=iZ
 obtain ⟨je,pI⟩:=kP
 have lL:=kN
 exact ⟨by rw [iX,jy,kH,je,lL];rfl,jM,pI⟩
theorem eY.out {A:Where} {w:World} {cs:List Value} {x:gN} (h:eY A w cs x):cs=[.string x.1,.string x.2.1,.bool x.2.2.1,.int .i64 x.2.2.2]/\x.1.size<=140737488355328/\x.2.1.size<=140737488355328:=by
 obtain ⟨pM,pJ,iX,jd,iZ⟩:=h
 obtain ⟨jy,jM⟩:=jd
 obtain ⟨uD,uu,kH,kP,kN⟩:=iZ
 obtain ⟨je,pI⟩:=kP
 obtain ⟨zB,zi,pK,qf,pY⟩:=kN
 have lL:=qf
 have rQ:=pY
 exact ⟨by rw [iX,jy,kH,je,pK,lL,rQ];rfl,jM,pI⟩
theorem bT.out {A:Where} {w:World} {cs:List Value} {x:bP} (h:bT A w cs x):∃ h0:Hd,cs=[.slice h0.1 h0.2.1 h0.2.2,.string x.2]/\ag aU 3 48 A w h0.1 h0.2.1 h0.2.2 x.1/\x.2.size<=140737488355328:=by
 obtain ⟨pM,pJ,iX,jd,iZ⟩:=h
 obtain ⟨H7,FJ,GQ,jy,jM⟩:=jd
 obtain ⟨je,pI⟩:=iZ
 exact ⟨(H7,FJ,GQ),by rw [iX,jy,je];rfl,jM,pI⟩
theorem bT.mk {A:Where} {w:World} {x:bP} {h0:Hd} (p0:ag aU 3 48 A w h0.1 h0.2.1 h0.2.2 x.1) (p1:x.2.size<=140737488355328):bT A w [.slice h0.1 h0.2.1 h0.2.2,.string x.2] x :=
 ⟨_,_,rfl,⟨h0.1,h0.2.1,h0.2.2,rfl,p0⟩,⟨rfl,p1⟩⟩
theorem dA.out {A:Where} {w:World} {cs:List Value} {x:vF} (h:dA A w cs x):∃ h0:Hd,cs=[.slice h0.1 h0.2.1 h0.2.2,.int .i64 x.2]/\ag aU 3 48 A w h0.1 h0.2.1 h0.2.2 x.1:=by
 obtain ⟨pM,pJ,iX,jd,iZ⟩:=h
 obtain ⟨H7,FJ,GQ,jy,jM⟩:=jd
 have je:=iZ
 exact ⟨(H7,FJ,GQ),by rw [iX,jy,je];rfl,jM⟩
theorem dA.mk {A:Where} {w:World} {x:vF} {h0:Hd} (p0:ag aU 3 48 A w h0.1 h0.2.1 h0.2.2 x.1):dA A w [.slice h0.1 h0.2.1 h0.2.2,.int .i64 x.2] x :=
 ⟨_,_,rfl,⟨h0.1,h0.2.1,h0.2.2,rfl,p0⟩,rfl⟩
theorem cK.out {A:Where} {w:World} {cs:List Value} {x:cz} (h:cK A w cs x):∃ h3:Hd,cs=[.string x.1,.int .i64 x.2.1,.int .i64 x.2.2.1,.slice h3.1 h3.2.1 h3.2.2]/\x.1.size<=140737488355328/\ag aU 3 48 A w h3.1 h3.2.1 h3.2.2 x.2.2.2:=by
 obtain ⟨pM,pJ,iX,jd,iZ⟩:=h
 obtain ⟨jy,jM⟩:=jd
 obtain ⟨uD,uu,kH,kP,kN⟩:=iZ
 have je:=kP
 obtain ⟨zB,zi,pK,qf,pY⟩:=kN
 have lL:=qf
 obtain ⟨Aq,zw,Ah,rQ,wL⟩:=pY
 exact ⟨(Aq,zw,Ah),by rw [iX,jy,kH,je,pK,lL,rQ];rfl,jM,wL⟩
theorem cK.mk {A:Where} {w:World} {x:cz} {h3:Hd} (p0:x.1.size<=140737488355328) (p1:ag aU 3 48 A w h3.1 h3.2.1 h3.2.2 x.2.2.2):cK A w [.string x.1,.int .i64 x.2.1,.int .i64 x.2.2.1,.slice h3.1 h3.2.1 h3.2.2] x :=
 ⟨_,_,rfl,⟨rfl,p0⟩,⟨_,_,rfl,rfl,⟨_,_,rfl,rfl,⟨h3.1,h3.2.1,h3.2.2,rfl,p1⟩⟩⟩⟩
theorem aj.out {A:Where} {w:World} {cs:List Value} {x:aB} (h:aj A w cs x):∃ h2 h6 h7 h8 h9 h10 h11 h12 aO:Hd,cs=[.string x.1,.int .i64 x.2.1,.slice h2.1 h2.2.1 h2.2.2,.int .i64 x.2.2.2.1.1,.int .i64 x.2.2.2.1.2.1,.int .i64 x.2.2.2.1.2.2,.slice h6.1 h6.2.1 h6.2.2,.slice h7.1 h7.2.1 h7.2.2,.slice h8.1 h8.2.1 h8.2.2,.slice h9.1 h9.2.1 h9.2.2,.slice h10.1 h10.2.1 h10.2.2,.slice h11.1 h11.2.1 h11.2.2,.slice h12.1 h12.2.1 h12.2.2,.slice aO.1 aO.2.1 aO.2.2,.string x.2.2.2.2.2.2.2.2.2.2.2.2.1,.string x.2.2.2.2.2.2.2.2.2.2.2.2.2]/\x.1.size<=140737488355328/\ag ak 2 32 A w h2.1 h2.2.1 h2.2.2 x.2.2.1/\ag eY 4 48 A w h6.1 h6.2.1 h6.2.2 x.2.2.2.2.1/\ag aU 3 48 A w h7.1 h7.2.1 h7.2.2 x.2.2.2.2.2.1/\ag dA 2 32 A w h8.1 h8.2.1 h8.2.2 x.2.2.2.2.2.2.1/\ag aC 1 8 A w h9.1 h9.2.1 h9.2.2 x.2.2.2.2.2.2.2.1/\ag bT 2 40 A w h10.1 h10.2.1 h10.2.2 x.2.2.2.2.2.2.2.2.1/\ag bT 2 40 A w h11.1 h11.2.1 h11.2.2 x.2.2.2.2.2.2.2.2.2.1/\ag cK 4 56 A w h12.1 h12.2.1 h12.2.2 x.2.2.2.2.2.2.2.2.2.2.1/\ag au 1 16 A w aO.1 aO.2.1 aO.2.2 x.2.2.2.2.2.2.2.2.2.2.2.1/\x.2.2.2.2.2.2.2.2.2.2.2.2.1.size<=140737488355328/\x.2.2.2.2.2.2.2.2.2.2.2.2.2.size<=140737488355328:=by
 obtain ⟨pM,pJ,iX,jd,iZ⟩:=h
 obtain ⟨jy,jM⟩:=jd
 obtain ⟨uD,uu,kH,kP,kN⟩:=iZ
 have je:=kP
 obtain ⟨zB,zi,pK,qf,pY⟩:=kN
 obtain ⟨Ar,zx,Ai,lL,uo⟩:=qf
 obtain ⟨MF,Mr,wM,wX,wW⟩:=pY
 obtain ⟨acs,ace,Vp,V7,VO⟩:=wX
 have Wu:=V7
 obtain ⟨acr,acd,Vo,V6,VN⟩:=VO
 have Wt:=V6
 have Ws:=VN
 obtain ⟨ZE,Zq,Ff,Gx,Gv⟩:=wW
 obtain ⟨Hz,FI,GN,Ac,zf⟩:=Gx
 obtain ⟨l_5,r_5,Rk,TD,Tz⟩:=Gv
 obtain ⟨TT,Ry,TL,GD,QO⟩:=TD
 obtain ⟨l_6,r_6,q_6,f_6,g_6⟩:=Tz
 obtain ⟨a_6,n_6,c_6,TJ,s_6⟩:=f_6
 obtain ⟨l_7,r_7,q_7,f_7,g_7⟩:=g_6
 obtain ⟨a_7,n_7,c_7,e_7,s_7⟩:=f_7
 obtain ⟨l_8,r_8,q_8,f_8,g_8⟩:=g_7
 obtain ⟨a_8,n_8,c_8,e_8,s_8⟩:=f_8
 obtain ⟨l_9,r_9,q_9,f_9,g_9⟩:=g_8
 obtain ⟨a_9,n_9,c_9,e_9,s_9⟩:=f_9
 obtain ⟨acK,acG,aar,abq,abn⟩:=g_9
 obtain ⟨abM,aay,abK,abF,aal⟩:=abq
 obtain ⟨acJ,acF,aaq,abp,abm⟩:=abn
 obtain ⟨abL,aax,abJ,abE,aak⟩:=abp
 obtain ⟨acI,acE,aap,abo,abl⟩:=abm
 obtain ⟨abD,aaj⟩:=abo
 obtain ⟨abC,aai⟩:=abl
 exact ⟨(Ar,zx,Ai),(Hz,FI,GN),(TT,Ry,TL),(a_6,n_6,c_6),(a_7,n_7,c_7),(a_8,n_8,c_8),(a_9,n_9,c_9),(abM,aay,abK),(abL,aax,abJ),by rw [iX,jy,kH,je,pK,lL,wM,Vp,Wu,Vo,Wt,Ws,Ff,Ac,Rk,GD,q_6,TJ,q_7,e_7,q_8,e_8,q_9,e_9,aar,abF,aaq,abE,aap,abD,abC];rfl,jM,uo,zf,QO,s_6,s_7,s_8,s_9,aal,aak,aaj,aai⟩
theorem aj.mk {A:Where} {w:World} {x:aB} {h2 h6 h7 h8 h9 h10 h11 h12 aO:Hd} (p0:x.1.size<=140737488355328) (p1:ag ak 2 32 A w h2.1 h2.2.1 h2.2.2 x.2.2.1) (p2:ag eY 4 48 A w h6.1 h6.2.1 h6.2.2 x.2.2.2.2.1) (p3:ag aU 3 48 A w h7.1 h7.2.1 h7.2.2 x.2.2.2.2.2.1) (p4:ag dA 2 32 A w h8.1 h8.2.1 h8.2.2 x.2.2.2.2.2.2.1) (p5:ag aC 1 8 A w h9.1 h9.2.1 h9.2.2 x.2.2.2.2.2.2.2.1) (p6:ag bT 2 40 A w h10.1 h10.2.1 h10.2.2 x.2.2.2.2.2.2.2.2.1) (p7:ag bT 2 40 A w h11.1 h11.2.1 h11.2.2 x.2.2.2.2.2.2.2.2.2.1) (p8:ag cK 4 56 A w h12.1 h12.2.1 h12.2.2 x.2.2.2.2.2.2.2.2.2.2.1) (p9:ag au 1 16 A w aO.1 aO.2.1 aO.2.2 x.2.2.2.2.2.2.2.2.2.2.2.1) (zq:x.2.2.2.2.2.2.2.2.2.2.2.2.1.size<=140737488355328) (Rp:x.2.2.2.2.2.2.2.2.2.2.2.2.2.size<=140737488355328):aj A w [.string x.1,.int .i64 x.2.1,.slice h2.1 h2.2.1 h2.2.2,.int .i64 x.2.2.2.1.1,.int .i64 x.2.2.2.1.2.1,.int .i64 x.2.2.2.1.2.2,.slice h6.1 h6.2.1 h6.2.2,.slice h7.1 h7.2.1 h7.2.2,.slice h8.1 h8.2.1 h8.2.2,.slice h9.1 h9.2.1 h9.2.2,.slice h10.1 h10.2.1 h10.2.2,.slice h11.1 h11.2.1 h11.2.2,.slice h12.1 h12.2.1 h12.2.2,.slice aO.1 aO.2.1 aO.2.2,.string x.2.2.2.2.2.2.2.2.2.2.2.2.1,.string x.2.2.2.2.2.2.2.2.2.2.2.2.2] x :=
 ⟨_,_,rfl,⟨rfl,p0⟩,⟨_,_,rfl,rfl,⟨_,_,rfl,⟨h2.1,h2.2.1,h2.2.2,rfl,p1⟩,⟨_,_,rfl,⟨_,_,rfl,rfl,⟨_,_,rfl,rfl,rfl⟩⟩,⟨_,_,rfl,⟨h6.1,h6.2.1,h6.2.2,rfl,p2⟩,⟨_,_,rfl,⟨h7.1,h7.2.1,h7.2.2,rfl,p3⟩,⟨_,_,rfl,⟨h8.1,h8.2.1,h8.2.2,rfl,p4⟩,⟨_,_,rfl,⟨h9.1,h9.2.1,h9.2.2,rfl,p5⟩,⟨_,_,rfl,⟨h10.1,h10.2.1,h10.2.2,rfl,p6⟩,⟨_,_,rfl,⟨h11.1,h11.2.1,h11.2.2,rfl,p7⟩,⟨_,_,rfl,⟨h12.1,h12.2.1,h12.2.2,rfl,p8⟩,⟨_,_,rfl,⟨aO.1,aO.2.1,aO.2.2,rfl,p9⟩,⟨_,_,rfl,⟨rfl,zq⟩,⟨rfl,Rp⟩⟩⟩⟩⟩⟩⟩⟩⟩⟩⟩⟩⟩⟩
theorem av.out {A:Where} {w:World} {cs:List Value} {x:aX} (h:av A w cs x):∃ h1 h2:Hd,cs=[.string x.1,.slice h1.1 h1.2.1 h1.2.2,.slice h2.1 h2.2.1 h2.2.2,.bool x.2.2.2.1,.int .i64 x.2.2.2.2.1.1,.int .i64 x.2.2.2.2.1.2.1,.int .i64 x.2.2.2.2.1.2.2,.int .i64 x.2.2.2.2.2.1,.int .i64 x.2.2.2.2.2.2]/\x.1.size<=140737488355328/\ag ak 2 32 A w h1.1 h1.2.1 h1.2.2 x.2.1/\ag dH 3 40 A w h2.1 h2.2.1 h2.2.2 x.2.2.1:=by
 obtain ⟨pM,pJ,iX,jd,iZ⟩:=h
 obtain ⟨jy,jM⟩:=jd
 obtain ⟨uD,uu,kH,kP,kN⟩:=iZ
 obtain ⟨Au,zy,Aj,je,pI⟩:=kP
 obtain ⟨zB,zi,pK,qf,pY⟩:=kN
 obtain ⟨Ar,zx,Ai,lL,uo⟩:=qf
 obtain ⟨MF,Mr,wM,wX,wW⟩:=pY
 have rQ:=wX
 obtain ⟨ZE,Zq,Ff,Gx,Gv⟩:=wW
 obtain ⟨acp,acb,Vn,VZ,VM⟩:=Gx
 have Wq:=VZ
 obtain ⟨aco,aca,Vm,VY,VL⟩:=VM
 have Wo:=VY
 have Wn:=VL
 obtain ⟨l_5,r_5,Rk,TD,Tz⟩:=Gv
 have GD:=TD
 have TJ:=Tz
 exact ⟨(Au,zy,Aj),(Ar,zx,Ai),by rw [iX,jy,kH,je,pK,lL,wM,rQ,Ff,Vn,Wq,Vm,Wo,Wn,Rk,GD,TJ];rfl,jM,pI,uo⟩
theorem av.mk {A:Where} {w:World} {x:aX} {h1 h2:Hd} (p0:x.1.size<=140737488355328) (p1:ag ak 2 32 A w h1.1 h1.2.1 h1.2.2 x.2.1) (p2:ag dH 3 40 A w h2.1 h2.2.1 h2.2.2 x.2.2.1):av A w [.string x.1,.slice h1.1 h1.2.1 h1.2.2,.slice h2.1 h2.2.1 h2.2.2,.bool x.2.2.2.1,.int .i64 x.2.2.2.2.1.1,.int .i64 x.2.2.2.2.1.2.1,.int .i64 x.2.2.2.2.1.2.2,.int .i64 x.2.2.2.2.2.1,.int .i64 x.2.2.2.2.2.2] x :=
 ⟨_,_,rfl,⟨rfl,p0⟩,⟨_,_,rfl,⟨h1.1,h1.2.1,h1.2.2,rfl,p1⟩,⟨_,_,rfl,⟨h2.1,h2.2.1,h2.2.2,rfl,p2⟩,⟨_,_,rfl,rfl,⟨_,_,rfl,⟨_,_,rfl,rfl,⟨_,_,rfl,rfl,rfl⟩⟩,⟨_,_,rfl,rfl,rfl⟩⟩⟩⟩⟩⟩
theorem ai.out {A:Where} {w:World} {cs:List Value} {x:aD} (h:ai A w cs x):∃ h3:Hd,cs=[.string x.1,.int .i64 x.2.1,.string x.2.2.1,.slice h3.1 h3.2.1 h3.2.2,.string x.2.2.2.2]/\x.1.size<=140737488355328/\x.2.2.1.size<=140737488355328/\ag aU 3 48 A w h3.1 h3.2.1 h3.2.2 x.2.2.2.1/\x.2.2.2.2.size<=140737488355328:=by
 obtain ⟨pM,pJ,iX,jd,iZ⟩:=h
 obtain ⟨jy,jM⟩:=jd
 obtain ⟨uD,uu,kH,kP,kN⟩:=iZ
 have je:=kP
 obtain ⟨zB,zi,pK,qf,pY⟩:=kN
 obtain ⟨lL,uo⟩:=qf
 obtain ⟨MF,Mr,wM,wX,wW⟩:=pY
 obtain ⟨Aq,zw,Ah,rQ,wL⟩:=wX
 obtain ⟨Ac,zf⟩:=wW
 exact ⟨(Aq,zw,Ah),by rw [iX,jy,kH,je,pK,lL,wM,rQ,Ac];rfl,jM,uo,wL,zf⟩
theorem ai.mk {A:Where} {w:World} {x:aD} {h3:Hd} (p0:x.1.size<=140737488355328) (p1:x.2.2.1.size<=140737488355328) (p2:ag aU 3 48 A w h3.1 h3.2.1 h3.2.2 x.2.2.2.1) (p3:x.2.2.2.2.size<=140737488355328):ai A w [.string x.1,.int .i64 x.2.1,.string x.2.2.1,.slice h3.1 h3.2.1 h3.2.2,.string x.2.2.2.2] x :=
 ⟨_,_,rfl,⟨rfl,p0⟩,⟨_,_,rfl,rfl,⟨_,_,rfl,⟨rfl,p1⟩,⟨_,_,rfl,⟨h3.1,h3.2.1,h3.2.2,rfl,p2⟩,⟨rfl,p3⟩⟩⟩⟩⟩
theorem aA.out {A:Where} {w:World} {cs:List Value} {x:aT} (h:aA A w cs x):cs=[.string x.1,.int .i64 x.2.1,.string x.2.2.1,.string x.2.2.2]/\x.1.size<=140737488355328/\x.2.2.1.size<=140737488355328/\x.2.2.2.size<=140737488355328:=by
 obtain ⟨pM,pJ,iX,jd,iZ⟩:=h
 obtain ⟨jy,jM⟩:=jd
 obtain ⟨uD,uu,kH,kP,kN⟩:=iZ
 have je:=kP
 obtain ⟨zB,zi,pK,qf,pY⟩:=kN
 obtain ⟨lL,uo⟩:=qf
 obtain ⟨rQ,wL⟩:=pY
 exact ⟨by rw [iX,jy,kH,je,pK,lL,rQ];rfl,jM,uo,wL⟩
theorem aH.out {A:Where} {w:World} {cs:List Value} {x:dI} (h:aH A w cs x):cs=[.string x.1,.bool x.2]/\x.1.size<=140737488355328:=by
 obtain ⟨pM,pJ,iX,jd,iZ⟩:=h
 obtain ⟨jy,jM⟩:=jd
 have je:=iZ
 exact ⟨by rw [iX,jy,je];rfl,jM⟩
theorem aI.out {A:Where} {w:World} {cs:List Value} {x:kW} (h:aI A w cs x):∃ h1:Hd,cs=[.string x.1,.slice h1.1 h1.2.1 h1.2.2,.int .i64 x.2.2]/\x.1.size<=140737488355328/\ag aU 3 48 A w h1.1 h1.2.1 h1.2.2 x.2.1:=by
 obtain ⟨pM,pJ,iX,jd,iZ⟩:=h
 obtain ⟨jy,jM⟩:=jd
 obtain ⟨uD,uu,kH,kP,kN⟩:=iZ
 obtain ⟨Au,zy,Aj,je,pI⟩:=kP
 have lL:=kN
 exact ⟨(Au,zy,Aj),by rw [iX,jy,kH,je,lL];rfl,jM,pI⟩
theorem aI.mk {A:Where} {w:World} {x:kW} {h1:Hd} (p0:x.1.size<=140737488355328) (p1:ag aU 3 48 A w h1.1 h1.2.1 h1.2.2 x.2.1):aI A w [.string x.1,.slice h1.1 h1.2.1 h1.2.2,.int .i64 x.2.2] x :=
 ⟨_,_,rfl,⟨rfl,p0⟩,⟨_,_,rfl,⟨h1.1,h1.2.1,h1.2.2,rfl,p1⟩,rfl⟩⟩
theorem aK.out {A:Where} {w:World} {cs:List Value} {x:aP} (h:aK A w cs x):∃ h0 h1 h2 h3 h4 h5:Hd,cs=[.slice h0.1 h0.2.1 h0.2.2,.slice h1.1 h1.2.1 h1.2.2,.slice h2.1 h2.2.1 h2.2.2,.slice h3.1 h3.2.1 h3.2.2,.slice h4.1 h4.2.1 h4.2.2,.slice h5.1 h5.2.1 h5.2.2]/\ag aj 16 296 A w h0.1 h0.2.1 h0.2.2 x.1/\ag av 9 112 A w h1.1 h1.2.1 h1.2.2 x.2.1/\ag ai 5 80 A w h2.1 h2.2.1 h2.2.2 x.2.2.1/\ag aA 4 56 A w h3.1 h3.2.1 h3.2.2 x.2.2.2.1/\ag aH 2 24 A w h4.1 h4.2.1 h4.2.2 x.2.2.2.2.1/\ag aI 3 48 A w h5.1 h5.2.1 h5.2.2 x.2.2.2.2.2:=by
 obtain ⟨pM,pJ,iX,jd,iZ⟩:=h
 obtain ⟨H7,FJ,GQ,jy,jM⟩:=jd
 obtain ⟨uD,uu,kH,kP,kN⟩:=iZ
 obtain ⟨Au,zy,Aj,je,pI⟩:=kP
 obtain ⟨zB,zi,pK,qf,pY⟩:=kN
 obtain ⟨Ar,zx,Ai,lL,uo⟩:=qf
 obtain ⟨MF,Mr,wM,wX,wW⟩:=pY
 obtain ⟨Aq,zw,Ah,rQ,wL⟩:=wX
 obtain ⟨ZE,Zq,Ff,Gx,Gv⟩:=wW
 obtain ⟨Hz,FI,GN,Ac,zf⟩:=Gx
 obtain ⟨TT,Ry,TL,GD,QO⟩:=Gv
 exact ⟨(H7,FJ,GQ),(Au,zy,Aj),(Ar,zx,Ai),(Aq,zw,Ah),(Hz,FI,GN),(TT,Ry,TL),by rw [iX,jy,kH,je,pK,lL,wM,rQ,Ff,Ac,GD];rfl,jM,pI,uo,wL,zf,QO⟩
theorem aK.mk {A:Where} {w:World} {x:aP} {h0 h1 h2 h3 h4 h5:Hd} (p0:ag aj 16 296 A w h0.1 h0.2.1 h0.2.2 x.1) (p1:ag av 9 112 A w h1.1 h1.2.1 h1.2.2 x.2.1) (p2:ag ai 5 80 A w h2.1 h2.2.1 h2.2.2 x.2.2.1) (p3:ag aA 4 56 A w h3.1 h3.2.1 h3.2.2 x.2.2.2.1) (p4:ag aH 2 24 A w h4.1 h4.2.1 h4.2.2 x.2.2.2.2.1) (p5:ag aI 3 48 A w h5.1 h5.2.1 h5.2.2 x.2.2.2.2.2):aK A w [.slice h0.1 h0.2.1 h0.2.2,.slice h1.1 h1.2.1 h1.2.2,.slice h2.1 h2.2.1 h2.2.2,.slice h3.1 h3.2.1 h3.2.2,.slice h4.1 h4.2.1 h4.2.2,.slice h5.1 h5.2.1 h5.2.2] x :=
 ⟨_,_,rfl,⟨h0.1,h0.2.1,h0.2.2,rfl,p0⟩,⟨_,_,rfl,⟨h1.1,h1.2.1,h1.2.2,rfl,p1⟩,⟨_,_,rfl,⟨h2.1,h2.2.1,h2.2.2,rfl,p2⟩,⟨_,_,rfl,⟨h3.1,h3.2.1,h3.2.2,rfl,p3⟩,⟨_,_,rfl,⟨h4.1,h4.2.1,h4.2.2,rfl,p4⟩,⟨h5.1,h5.2.1,h5.2.2,rfl,p5⟩⟩⟩⟩⟩⟩
theorem GA (a b c x y z:Int) (w:World):Calls prog 86 #[.func (.func 87) #[] #[],.agg #[.int .i64 a,.int .i64 b,.int .i64 c],.agg #[.int .i64 x,.int .i64 y,.int .i64 z]] w fun e w'=>e=.returned (.agg #[.int .i64 (dX a x),.int .i64 (dX b y),.int .i64 (dX c z)])/\Below w.heap.size w w':=by
 go_enter func86,ntmps86
 go_upto_region 1 with fail
 go_cut [7,8] (fun p q wx=>∃ B C:Nat,p=.pointer (some ⟨B,0,none⟩)/\q=.pointer (some ⟨C,0,none⟩)/\w.heap.size+1+1<B/\w.heap.size+1+1<C/\B<wx.heap.size/\C<wx.heap.size/\qo wx B a b c/\qo wx C x y z/\qo wx (w.heap.size+1+1) 0 0 0/\wx.frozen? ⟨w.heap.size+1+1,0,none⟩=false/\wx.frozen? ⟨w.heap.size+1+1,1,none⟩=false/\wx.frozen? ⟨w.heap.size+1+1,2,none⟩=false/\Below w.heap.size w wx)
 case first =>
  go_region_held3 (fun w'=>w'.cell? ⟨w.heap.size,0,none⟩=some (.int .i64 a)/\w'.cell? ⟨w.heap.size,1,none⟩=some (.int .i64 b)/\w'.cell? ⟨w.heap.size,2,none⟩=some (.int .i64 c)/\w'.cell? ⟨w.heap.size+1,0,none⟩=some (.int .i64 x)/\w'.cell? ⟨w.heap.size+1,1,none⟩=some (.int .i64 y)/\w'.cell? ⟨w.heap.size+1,2,none⟩=some (.int .i64 z)) ((refine ⟨?_,?_,?_,?_,?_,?_⟩) <;> (simp [go_sem];done))
   (first | (go_at_call 123;refine (Yx _ _ _ _).mono ?_;rintro e w' ⟨rfl,rfl⟩))
  all_goals
   go_wp2_with fail
   go_meet
   refine ⟨_,_,rfl,rfl,?_,?_,?_,?_,⟨?_,?_,?_⟩,⟨?_,?_,?_⟩,⟨?_,?_,?_⟩,?_,?_,?_,?_⟩
   all_goals first | omega | (simp [go_sem];done) | (simp [go_sem];omega) | go_grown
 case rest =>
  obtain ⟨B,C,rfl,rfl,hB,hC,hBl,hCl,⟨hB0,hB1,hB2⟩,⟨hC0,uN,hC2⟩,⟨hR0,zZ,hR2⟩,hf0,hf1,hf2,hbel⟩:=hcut
  have hRl:w.heap.size+1+1<wc.heap.size:=by omega
  go_wp2_with fail
  refine wp_loop_rounds 4 ?_
  rw [rounds_succ]
  go_wp2_with fail
  go_region_held3 (fun w'=>w'.cell? ⟨B,0,none⟩=some (.int .i64 a)/\w'.cell? ⟨B,1,none⟩=some (.int .i64 b)/\w'.cell? ⟨B,2,none⟩=some (.int .i64 c)/\w'.cell? ⟨C,0,none⟩=some (.int .i64 x)/\w'.cell? ⟨C,1,none⟩=some (.int .i64 y)/\w'.cell? ⟨C,2,none⟩=some (.int .i64 z)) ((refine ⟨?_,?_,?_,?_,?_,?_⟩) <;> (simp [*,go_sem];done))
   (first | (go_at_call 87;refine (Qh _ _ _).mono ?_;rintro e w' ⟨rfl,rfl⟩))
  rename_i uS
  clear uS
  go_wp2_with fail
  rw [rounds_succ]
  go_wp2_with fail
  go_region_held3 (fun w'=>w'.cell? ⟨B,0,none⟩=some (.int .i64 a)/\w'.cell? ⟨B,1,none⟩=some (.int .i64 b)/\w'.cell? ⟨B,2,none⟩=some (.int .i64 c)/\w'.cell? ⟨C,0,none⟩=some (.int .i64 x)/\w'.cell? ⟨C,1,none⟩=some (.int .i64 y)/\w'.cell? ⟨C,2,none⟩=some (.int .i64 z)) ((refine ⟨?_,?_,?_,?_,?_,?_⟩) <;> (simp [*,go_sem];done))
   (first | (go_at_call 87;refine (Qh _ _ _).mono ?_;rintro e w' ⟨rfl,rfl⟩))
  rename_i uS
  clear uS
  go_wp2_with fail
  rw [rounds_succ]
  go_wp2_with fail
  go_region_held3 (fun w'=>w'.cell? ⟨B,0,none⟩=some (.int .i64 a)/\w'.cell? ⟨B,1,none⟩=some (.int .i64 b)/\w'.cell? ⟨B,2,none⟩=some (.int .i64 c)/\w'.cell? ⟨C,0,none⟩=some (.int .i64 x)/\w'.cell? ⟨C,1,none⟩=some (.int .i64 y)/\w'.cell? ⟨C,2,none⟩=some (.int .i64 z)) ((refine ⟨?_,?_,?_,?_,?_,?_⟩) <;> (simp [*,go_sem];done))
   (first | (go_at_call 87;refine (Qh _ _ _).mono ?_;rintro e w' ⟨rfl,rfl⟩))
  rename_i uS
  clear uS
  go_wp2_with fail
  rw [rounds_succ]
  go_wp2_with fail
  refine (Yg _ _ _ _).mono ?_
  rintro e w1 ⟨rfl,hb⟩
  have hb':Below wc.heap.size wc w1:=(((((Below.refl wc.heap.size wc).alloc (Nat.le_refl _) _).drew).drew).drew).trans (hb.mono (by simp))
  have r0:=(hb'.cell (p:=⟨w.heap.size+1+1,0,none⟩) hRl).trans hR0
  have r1:=(hb'.cell (p:=⟨w.heap.size+1+1,1,none⟩) hRl).trans zZ
  have r2:=(hb'.cell (p:=⟨w.heap.size+1+1,2,none⟩) hRl).trans hR2
  have f0:=(hb'.frozen (p:=⟨w.heap.size+1+1,0,none⟩) hRl).trans hf0
  have f1:=(hb'.frozen (p:=⟨w.heap.size+1+1,1,none⟩) hRl).trans hf1
  have f2:=(hb'.frozen (p:=⟨w.heap.size+1+1,2,none⟩) hRl).trans hf2
  have hz:Below w.heap.size w w1:=hbel.trans (hb'.mono hbel.size)
  clear hb hb' hR0 zZ hR2 hf0 hf1 hf2
  go_wp2_with fail
  exact bodyPost_ret (v:=.agg #[.int .i64 (dX a x),.int .i64 (dX b y),.int .i64 (dX c z)]) (by simp [results,Tryz.results86,go_sem,r0,r1,r2]) rfl ⟨rfl,((hz.setCell (by simp;omega) _).setCell (by simp;omega) _).setCell (by simp;omega) _⟩
theorem zHE (a b c x y z:Int) (w:World):Calls prog 86 #[.func (.func 167) #[] #[],.agg #[.int .i64 a,.int .i64 b,.int .i64 c],.agg #[.int .i64 x,.int .i64 y,.int .i64 z]] w fun e w'=>e=.returned (.agg #[.int .i64 (jL a x),.int .i64 (jL b y),.int .i64 (jL c z)])/\Below w.heap.size w w':=by
 go_enter func86,ntmps86
 go_upto_region 1 with fail
 go_cut [7,8] (fun p q wx=>∃ B C:Nat,p=.pointer (some ⟨B,0,none⟩)/\q=.pointer (some ⟨C,0,none⟩)/\w.heap.size+1+1<B/\w.heap.size+1+1<C/\B<wx.heap.size/\C<wx.heap.size/\qo wx B a b c/\qo wx C x y z/\qo wx (w.heap.size+1+1) 0 0 0/\wx.frozen? ⟨w.heap.size+1+1,0,none⟩=false/\wx.frozen? ⟨w.heap.size+1+1,1,none⟩=false/\wx.frozen? ⟨w.heap.size+1+1,2,none⟩=false/\Below w.heap.size w wx)
 case first =>
  go_region_held3 (fun w'=>w'.cell? ⟨w.heap.size,0,none⟩=some (.int .i64 a)/\w'.cell? ⟨w.heap.size,1,none⟩=some (.int .i64 b)/\w'.cell? ⟨w.heap.size,2,none⟩=some (.int .i64 c)/\w'.cell? ⟨w.heap.size+1,0,none⟩=some (.int .i64 x)/\w'.cell? ⟨w.heap.size+1,1,none⟩=some (.int .i64 y)/\w'.cell? ⟨w.heap.size+1,2,none⟩=some (.int .i64 z)) ((refine ⟨?_,?_,?_,?_,?_,?_⟩) <;> (simp [go_sem];done))
   (first | (go_at_call 123;refine (Yx _ _ _ _).mono ?_;rintro e w' ⟨rfl,rfl⟩))
  all_goals
   go_wp2_with fail
   go_meet
   refine ⟨_,_,rfl,rfl,?_,?_,?_,?_,⟨?_,?_,?_⟩,⟨?_,?_,?_⟩,⟨?_,?_,?_⟩,?_,?_,?_,?_⟩
   all_goals first | omega | (simp [go_sem];done) | (simp [go_sem];omega) | go_grown
 case rest =>
  obtain ⟨B,C,rfl,rfl,hB,hC,hBl,hCl,⟨hB0,hB1,hB2⟩,⟨hC0,uN,hC2⟩,⟨hR0,zZ,hR2⟩,hf0,hf1,hf2,hbel⟩:=hcut
  have hRl:w.heap.size+1+1<wc.heap.size:=by omega
  go_wp2_with fail
  refine wp_loop_rounds 4 ?_
  rw [rounds_succ]
  go_wp2_with fail
  go_region_held3 (fun w'=>w'.cell? ⟨B,0,none⟩=some (.int .i64 a)/\w'.cell? ⟨B,1,none⟩=some (.int .i64 b)/\w'.cell? ⟨B,2,none⟩=some (.int .i64 c)/\w'.cell? ⟨C,0,none⟩=some (.int .i64 x)/\w'.cell? ⟨C,1,none⟩=some (.int .i64 y)/\w'.cell? ⟨C,2,none⟩=some (.int .i64 z)) ((refine ⟨?_,?_,?_,?_,?_,?_⟩) <;> (simp [*,go_sem];done))
   (first | (go_at_call 167;refine (Qo _ _ _).mono ?_;rintro e w' ⟨rfl,rfl⟩))
  rename_i uS
  clear uS
  go_wp2_with fail
  rw [rounds_succ]
  go_wp2_with fail
  go_region_held3 (fun w'=>w'.cell? ⟨B,0,none⟩=some (.int .i64 a)/\w'.cell? ⟨B,1,none⟩=some (.int .i64 b)/\w'.cell? ⟨B,2,none⟩=some (.int .i64 c)/\w'.cell? ⟨C,0,none⟩=some (.int .i64 x)/\w'.cell? ⟨C,1,none⟩=some (.int .i64 y)/\w'.cell? ⟨C,2,none⟩=some (.int .i64 z)) ((refine ⟨?_,?_,?_,?_,?_,?_⟩) <;> (simp [*,go_sem];done))
   (first | (go_at_call 167;refine (Qo _ _ _).mono ?_;rintro e w' ⟨rfl,rfl⟩))
  rename_i uS
  clear uS
  go_wp2_with fail
  rw [rounds_succ]
  go_wp2_with fail
  go_region_held3 (fun w'=>w'.cell? ⟨B,0,none⟩=some (.int .i64 a)/\w'.cell? ⟨B,1,none⟩=some (.int .i64 b)/\w'.cell? ⟨B,2,none⟩=some (.int .i64 c)/\w'.cell? ⟨C,0,none⟩=some (.int .i64 x)/\w'.cell? ⟨C,1,none⟩=some (.int .i64 y)/\w'.cell? ⟨C,2,none⟩=some (.int .i64 z)) ((refine ⟨?_,?_,?_,?_,?_,?_⟩) <;> (simp [*,go_sem];done))
   (first | (go_at_call 167;refine (Qo _ _ _).mono ?_;rintro e w' ⟨rfl,rfl⟩))
  rename_i uS
  clear uS
  go_wp2_with fail
  rw [rounds_succ]
  go_wp2_with fail
  refine (Yg _ _ _ _).mono ?_
  rintro e w1 ⟨rfl,hb⟩
  have hb':Below wc.heap.size wc w1:=(((((Below.refl wc.heap.size wc).alloc (Nat.le_refl _) _).drew).drew).drew).trans (hb.mono (by simp))
  have r0:=(hb'.cell (p:=⟨w.heap.size+1+1,0,none⟩) hRl).trans hR0
  have r1:=(hb'.cell (p:=⟨w.heap.size+1+1,1,none⟩) hRl).trans zZ
  have r2:=(hb'.cell (p:=⟨w.heap.size+1+1,2,none⟩) hRl).trans hR2
  have f0:=(hb'.frozen (p:=⟨w.heap.size+1+1,0,none⟩) hRl).trans hf0
  have f1:=(hb'.frozen (p:=⟨w.heap.size+1+1,1,none⟩) hRl).trans hf1
  have f2:=(hb'.frozen (p:=⟨w.heap.size+1+1,2,none⟩) hRl).trans hf2
  have hz:Below w.heap.size w w1:=hbel.trans (hb'.mono hbel.size)
  clear hb hb' hR0 zZ hR2 hf0 hf1 hf2
  go_wp2_with fail
  exact bodyPost_ret (v:=.agg #[.int .i64 (jL a x),.int .i64 (jL b y),.int .i64 (jL c z)]) (by simp [results,Tryz.results86,go_sem,r0,r1,r2]) rfl ⟨rfl,((hz.setCell (by simp;omega) _).setCell (by simp;omega) _).setCell (by simp;omega) _⟩
end Go.Proofs.YtgikfenllgldoaaGreat
