/- Contracts of Go's own library at this seat's dump (laid by program over the kit's shelf): strings_Compare, cmp_Compare_int, slices_Contains_string, slices_Contains_string_empty, slices_Min_int, laysValues, laysSortedV, laysSortV, laysKeys, laysSorted, laysSort, laysSortS, laysSortI, slices_Compact_string, slices_Compact_string_empty, slices_Compact_int, slices_Compact_int_empty. No condition beyond what each states. -/
import Derived.Ground.SlgnProg
import Derived.Shelf.SortG.SortNone
import Derived.Shelf.SortG.Plain
import Derived.Ground.SlgmProg
import Derived.Ground.GgzProg
import Derived.Ground.GgmProg
import Derived.Shelf.SortM.SortNone
import Derived.Shelf.SortM.Plain
import Derived.Shelf.SlIterI.Sorted
import Derived.Shelf.SlIter.Nil
import Derived.Shelf.SlIter.AllValues
import Derived.Shelf.Small.Bits
import Derived.Shelf.Small.Strs
import Derived.Shelf.Small.Wraps
import Derived.Shelf.Strconv.Itoa0
import Derived.Shelf.Slices.Turned
import Derived.Ground.Names2Prog
import Derived.Shelf.Slices.CompactI
import Derived.Shelf.Slices.CompactS
import Derived.Shelf.Slices.SearchI
import Derived.Shelf.Slices.Cells
import Derived.Shelf.Slices.In.SortNone
import Derived.Ground.SlgmProg
import Derived.Shelf.SortM.Plain
import Derived.Test.YtgikfenllgldoaaGreatProg
namespace Go.Proofs
open Go.Shelf
def Tryz.lays106_ren:Go.Shelf.Ren:=⟨fun | 106=>180 | 213=>206 | 265=>217 | n=>n,fun | 9=>9 | 3=>3 | n=>n,fun | n=>n⟩
theorem Tryz.lays106:Go.Proofs.Lays.n106 prog Tryz.lays106_ren:={
 mixed:=by kernel_rfl
 f106:=func180.trans (congrArg some (by kernel_rfl))
 f213:=func206.trans (congrArg some (by kernel_rfl))
 f265:=func217.trans (congrArg some (by kernel_rfl))
 t3:=underlying3
 a3:=Tryz.isAgg3
 z3:=Tryz.sizeOf3
 v3:=zeroValue3
 t9:=underlying9
 a9:=Tryz.isAgg9
 z9:=Tryz.sizeOf9
 v9:=zeroValue9 }
open Go.RowKit in
theorem Tryz.strings_Compare (a b:ByteArray) (w:World) :
  Calls prog 180 #[.string a,.string b] w fun e w'=>e=.returned (.int .i64 (Lib.compareBytes a.data.toList b.data.toList))/\w'=w:=Any.strings_Compare Tryz.lays106 a b w
def Tryz.lays122_ren:Go.Shelf.Ren:=⟨fun | 122=>179 | 215=>190 | n=>n,fun | 3=>3 | 4=>4 | n=>n,fun | n=>n⟩
theorem Tryz.lays122:Go.Proofs.Lays.n122 prog Tryz.lays122_ren:={
 mixed:=by kernel_rfl
 f122:=func179.trans (congrArg some (by kernel_rfl))
 f215:=func190.trans (congrArg some (by kernel_rfl))
 t3:=underlying3
 a3:=Tryz.isAgg3
 z3:=Tryz.sizeOf3
 v3:=zeroValue3
 t4:=underlying4
 a4:=Tryz.isAgg4
 z4:=Tryz.sizeOf4
 v4:=zeroValue4 }
open Go.RowKit in
theorem Tryz.cmp_Compare_int (x y:Int) (w:World) :
  Calls prog 179 #[.int .i64 x,.int .i64 y] w fun e w'=>e=.returned (.int .i64 (Lib.compareInt x y))/\w'=w:=Any.cmp_Compare_int Tryz.lays122 x y w
def Tryz.lays110_ren:Go.Shelf.Ren:=⟨fun | 110=>212 | 109=>220 | n=>n,fun | 31=>39 | 9=>9 | 4=>4 | 3=>3 | 0=>0 | n=>n,fun | n=>n⟩
theorem Tryz.lays110:Go.Proofs.Lays.n110 prog Tryz.lays110_ren:={
 mixed:=by kernel_rfl
 f109:=func220.trans (congrArg some (by kernel_rfl))
 f110:=func212.trans (congrArg some (by kernel_rfl))
 t0:=underlying0
 a0:=Tryz.isAgg0
 z0:=Tryz.sizeOf0
 v0:=zeroValue0
 t3:=underlying3
 a3:=Tryz.isAgg3
 z3:=Tryz.sizeOf3
 v3:=zeroValue3
 t4:=underlying4
 a4:=Tryz.isAgg4
 z4:=Tryz.sizeOf4
 v4:=zeroValue4
 t9:=underlying9
 a9:=Tryz.isAgg9
 z9:=Tryz.sizeOf9
 v9:=zeroValue9
 t31:=underlying39
 a31:=Tryz.isAgg39
 z31:=Tryz.sizeOf39
 v31:=zeroValue39 }
open Go.Lib in
theorem Tryz.slices_Contains_string (b off n c:Nat) (zs:List ByteArray) (x:ByteArray) (w:World) (hz:n<=zs.length) (hbig:n<=9223372036854775807) (hc:∀ j,j<zs.length->w.cell? ⟨b,off+j,none⟩=some (.string (zs.getD j ByteArray.empty))) :
  Calls prog 212 #[.slice (some ⟨b,off,none⟩) n c,.string x] w fun e w'=>e=.returned (.bool (Lib.containsS (zs.take n) x))/\w'=w:=Any.slices_Contains_string Tryz.lays110 b off n c zs x w hz hbig hc
open Go.Lib in
theorem Tryz.slices_Contains_string_empty (a:Option Addr) (c:Nat) (x:ByteArray) (w:World) :
  Calls prog 212 #[.slice a 0 c,.string x] w fun e w'=>e=.returned (.bool false)/\w'=w:=Any.slices_Contains_string_empty Tryz.lays110 a c x w
def Tryz.lays114_ren:Go.Shelf.Ren:=⟨fun | 114=>137 | n=>n,fun | 28=>36 | 3=>3 | 4=>4 | 9=>9 | 20=>20 | 0=>0 | n=>n,fun | n=>n⟩
theorem Tryz.lays114:Go.Proofs.Lays.n114 prog Tryz.lays114_ren:={
 mixed:=by kernel_rfl
 f114:=func137.trans (congrArg some (by kernel_rfl))
 t0:=underlying0
 a0:=Tryz.isAgg0
 z0:=Tryz.sizeOf0
 v0:=zeroValue0
 t3:=underlying3
 a3:=Tryz.isAgg3
 z3:=Tryz.sizeOf3
 v3:=zeroValue3
 t4:=underlying4
 a4:=Tryz.isAgg4
 z4:=Tryz.sizeOf4
 v4:=zeroValue4
 t9:=underlying9
 a9:=Tryz.isAgg9
 z9:=Tryz.sizeOf9
 v9:=zeroValue9
 t20:=underlying20
 a20:=Tryz.isAgg20
 z20:=Tryz.sizeOf20
 v20:=zeroValue20
 t28:=underlying36
 a28:=Tryz.isAgg36
 z28:=Tryz.sizeOf36
 v28:=zeroValue36 }
open Go.Lib in
theorem Tryz.slices_Min_int (b off n c:Nat) (zs:List Int) (w:World) (hn:0<n) (hz:n<=zs.length) (hbig:n<=9223372036854775807) (hc:∀ j,j<zs.length->w.cell? ⟨b,off+j,none⟩=some (.int .i64 (zs.getD j 0))) :
  Calls prog 137 #[.slice (some ⟨b,off,none⟩) n c] w fun e w'=>e=.returned (.int .i64 (Lib.minOf (zs.take n)))/\w'=w:=Any.slices_Min_int Tryz.lays114 b off n c zs w hn hz hbig hc
def Tryz.laysNm220_ren:Go.Shelf.Ren:=⟨fun | 20=>91 | n=>n,fun | 22=>36 | 3=>3 | 4=>4 | 0=>0 | n=>n,fun | n=>n⟩
theorem Tryz.laysNm220:Go.Proofs.Lays2.n20 prog Tryz.laysNm220_ren:={
 mixed:=by kernel_rfl
 f20:=func91.trans (congrArg some (by kernel_rfl))
 t0:=underlying0
 a0:=Tryz.isAgg0
 z0:=Tryz.sizeOf0
 v0:=zeroValue0
 t3:=underlying3
 a3:=Tryz.isAgg3
 z3:=Tryz.sizeOf3
 v3:=zeroValue3
 t4:=underlying4
 a4:=Tryz.isAgg4
 z4:=Tryz.sizeOf4
 v4:=zeroValue4
 t22:=underlying36
 a22:=Tryz.isAgg36
 z22:=Tryz.sizeOf36
 v22:=zeroValue36
 i3:=by kernel_rfl }
open Go.RowKit Go.Lib Go.Sort in
theorem Tryz.slices_Compact_int (blk off cap:Nat) (zs:List Int) (w:World) (hH:Holds (Value.int .i64) w blk off zs.toArray) (hsz:zs.length<=9223372036854775807) (hcap:zs.length<=cap) :
  Calls prog 91 #[.slice (some ⟨blk,off,none⟩) zs.length cap] w fun e w'=>e=.returned (.slice (some ⟨blk,off,none⟩) (Lib.compact zs).length cap)/\∃ q,w'=putRow (Value.int .i64) (Sort.ahead w q) blk off (Lib.compact zs++List.replicate (zs.length - (Lib.compact zs).length) 0).toArray:=Any.slices_Compact_int Tryz.laysNm220 blk off cap zs w hH hsz hcap
open Go.RowKit Go.Lib Go.Sort in
theorem Tryz.slices_Compact_int_empty (a:Option Addr) (cap:Nat) (w:World) :
  Calls prog 91 #[.slice a 0 cap] w fun e w'=>e=.returned (.slice a 0 cap)/\w'=w:=Any.slices_Compact_int_empty Tryz.laysNm220 a cap w
def Tryz.lays194_ren:Go.Shelf.Ren:=⟨fun | 194=>89 | n=>n,fun | 31=>39 | 9=>9 | 3=>3 | 4=>4 | 0=>0 | n=>n,fun | n=>n⟩
theorem Tryz.lays194:Go.Proofs.Lays.n194 prog Tryz.lays194_ren:={
 mixed:=by kernel_rfl
 f194:=func89.trans (congrArg some (by kernel_rfl))
 t0:=underlying0
 a0:=Tryz.isAgg0
 z0:=Tryz.sizeOf0
 v0:=zeroValue0
 t3:=underlying3
 a3:=Tryz.isAgg3
 z3:=Tryz.sizeOf3
 v3:=zeroValue3
 t4:=underlying4
 a4:=Tryz.isAgg4
 z4:=Tryz.sizeOf4
 v4:=zeroValue4
 t9:=underlying9
 a9:=Tryz.isAgg9
 z9:=Tryz.sizeOf9
 v9:=zeroValue9
 t31:=underlying39
 a31:=Tryz.isAgg39
 z31:=Tryz.sizeOf39
 v31:=zeroValue39 }
open Go.RowKit Go.Lib Go.Sort in
theorem Tryz.slices_Compact_string (blk off cap:Nat) (zs:List (List UInt8)) (w:World) (hH:Holds encStr w blk off zs.toArray) (hsz:zs.length<=9223372036854775807) (hcap:zs.length<=cap) :
  Calls prog 89 #[.slice (some ⟨blk,off,none⟩) zs.length cap] w fun e w'=>e=.returned (.slice (some ⟨blk,off,none⟩) (Lib.compact zs).length cap)/\∃ q,w'=putRow encStr (Sort.ahead w q) blk off (Lib.compact zs++List.replicate (zs.length - (Lib.compact zs).length) []).toArray:=Any.slices_Compact_string Tryz.lays194 blk off cap zs w hH hsz hcap
open Go.RowKit Go.Lib Go.Sort in
theorem Tryz.slices_Compact_string_empty (a:Option Addr) (cap:Nat) (w:World) :
  Calls prog 89 #[.slice a 0 cap] w fun e w'=>e=.returned (.slice a 0 cap)/\w'=w:=Any.slices_Compact_string_empty Tryz.lays194 a cap w
def Tryz.laysValues_ren:Go.Shelf.Ren:=⟨fun | 5=>139 | 7=>176 | n=>n,fun | 23=>119 | 27=>9 | 3=>3 | 25=>237 | 0=>0 | 24=>236 | 33=>269 | 4=>4 | n=>n,fun | n=>n⟩
theorem Tryz.laysValues:Go.Proofs.SlLaysY.n5 prog Tryz.laysValues_ren:={
 mixed:=by kernel_rfl
 f5:=⟨Tryz.f139.name,by decide,func139.trans (congrArg some (by kernel_rfl))⟩
 f7:=⟨Tryz.f176.name,by decide,func176.trans (congrArg some (by kernel_rfl))⟩
 t0:=underlying0
 a0:=Tryz.isAgg0
 z0:=Tryz.sizeOf0
 v0:=zeroValue0
 t3:=underlying3
 a3:=Tryz.isAgg3
 z3:=Tryz.sizeOf3
 v3:=zeroValue3
 t4:=underlying4
 a4:=Tryz.isAgg4
 z4:=Tryz.sizeOf4
 v4:=zeroValue4
 t23:=underlying119
 a23:=Tryz.isAgg119
 z23:=Tryz.sizeOf119
 v23:=zeroValue119
 t24:=underlying236
 a24:=Tryz.isAgg236
 z24:=Tryz.sizeOf236
 v24:=zeroValue236
 t25:=underlying237
 a25:=Tryz.isAgg237
 z25:=Tryz.sizeOf237
 v25:=zeroValue237
 t27:=underlying9
 a27:=Tryz.isAgg9
 z27:=Tryz.sizeOf9
 v27:=zeroValue9
 t33:=underlying269
 a33:=Tryz.isAgg269
 z33:=Tryz.sizeOf269
 v33:=zeroValue269 }
def Tryz.laysSortedV_ren:Go.Shelf.Ren:=⟨fun | 6=>138 | 8=>175 | 9=>90 | 11=>205 | 13=>127 | 12=>128 | 23=>156 | 24=>157 | 14=>158 | 15=>159 | 16=>160 | 17=>161 | 18=>162 | 19=>163 | 20=>164 | 21=>165 | 22=>166 | 25=>187 | 26=>182 | 27=>183 | 28=>188 | 29=>189 | 30=>190 | 31=>208 | n=>n,fun | 26=>3 | 28=>237 | 24=>36 | 0=>0 | 3=>3 | 37=>218 | 48=>255 | 50=>257 | 4=>4 | 40=>248 | 39=>247 | 45=>146 | 5=>5 | 9=>9 | 51=>276 | 55=>280 | 57=>293 | 58=>294 | 33=>269 | n=>n,fun | n=>n⟩
theorem Tryz.laysSortedV:Go.Proofs.SlLaysZI.n6 prog Tryz.laysSortedV_ren:={
 mixed:=by kernel_rfl
 f6:=⟨Tryz.f138.name,by decide,func138.trans (congrArg some (by kernel_rfl))⟩
 f8:=⟨Tryz.f175.name,by decide,func175.trans (congrArg some (by kernel_rfl))⟩
 f11:=⟨Tryz.f205.name,by decide,func205.trans (congrArg some (by kernel_rfl))⟩
 t0:=underlying0
 a0:=Tryz.isAgg0
 z0:=Tryz.sizeOf0
 v0:=zeroValue0
 t24:=underlying36
 a24:=Tryz.isAgg36
 z24:=Tryz.sizeOf36
 v24:=zeroValue36
 t26:=underlying3
 a26:=Tryz.isAgg3
 z26:=Tryz.sizeOf3
 v26:=zeroValue3
 t28:=underlying237
 a28:=Tryz.isAgg237
 z28:=Tryz.sizeOf237
 v28:=zeroValue237
 i26:=by kernel_rfl }
def Tryz.laysSortV_ren:Go.Shelf.Ren:=⟨fun | 5=>90 | 8=>127 | 7=>128 | 19=>156 | 20=>157 | 10=>158 | 11=>159 | 12=>160 | 13=>161 | 14=>162 | 15=>163 | 16=>164 | 17=>165 | 18=>166 | 30=>187 | 31=>182 | 32=>183 | 33=>188 | 34=>189 | 35=>190 | 40=>208 | n=>n,fun | 23=>36 | 25=>3 | 3=>3 | 32=>218 | 22=>36 | 0=>0 | 44=>255 | 46=>257 | 4=>4 | 36=>248 | 35=>247 | 41=>146 | 5=>5 | 9=>9 | 53=>276 | 57=>280 | 63=>293 | 64=>294 | n=>n,fun | n=>n⟩
theorem Tryz.laysSortV:Go.Proofs.SlLaysM.n5 prog Tryz.laysSortV_ren:={
 mixed:=by kernel_rfl
 f5:=⟨Tryz.f90.name,by decide,func90.trans (congrArg some (by kernel_rfl))⟩
 f7:=⟨Tryz.f128.name,by decide,func128.trans (congrArg some (by kernel_rfl))⟩
 f8:=func127.trans (congrArg some (by kernel_rfl))
 f10:=⟨Tryz.f158.name,by decide,func158.trans (congrArg some (by kernel_rfl))⟩
 f11:=⟨Tryz.f159.name,by decide,func159.trans (congrArg some (by kernel_rfl))⟩
 f12:=⟨Tryz.f160.name,by decide,func160.trans (congrArg some (by kernel_rfl))⟩
 f13:=⟨Tryz.f161.name,by decide,func161.trans (congrArg some (by kernel_rfl))⟩
 f14:=⟨Tryz.f162.name,by decide,func162.trans (congrArg some (by kernel_rfl))⟩
 f15:=⟨Tryz.f163.name,by decide,func163.trans (congrArg some (by kernel_rfl))⟩
 f16:=⟨Tryz.f164.name,by decide,func164.trans (congrArg some (by kernel_rfl))⟩
 f17:=⟨Tryz.f165.name,by decide,func165.trans (congrArg some (by kernel_rfl))⟩
 f18:=⟨Tryz.f166.name,by decide,func166.trans (congrArg some (by kernel_rfl))⟩
 f19:=func156.trans (congrArg some (by kernel_rfl))
 f20:=func157.trans (congrArg some (by kernel_rfl))
 f30:=⟨Tryz.f187.name,by decide,func187.trans (congrArg some (by kernel_rfl))⟩
 f31:=func182.trans (congrArg some (by kernel_rfl))
 f32:=func183.trans (congrArg some (by kernel_rfl))
 f33:=⟨Tryz.f188.name,by decide,func188.trans (congrArg some (by kernel_rfl))⟩
 f34:=⟨Tryz.f189.name,by decide,func189.trans (congrArg some (by kernel_rfl))⟩
 f35:=⟨Tryz.f190.name,by decide,func190.trans (congrArg some (by kernel_rfl))⟩
 f40:=⟨Tryz.f208.name,by decide,func208.trans (congrArg some (by kernel_rfl))⟩
 t0:=underlying0
 a0:=Tryz.isAgg0
 z0:=Tryz.sizeOf0
 v0:=zeroValue0
 t3:=underlying3
 a3:=Tryz.isAgg3
 z3:=Tryz.sizeOf3
 v3:=zeroValue3
 t4:=underlying4
 a4:=Tryz.isAgg4
 z4:=Tryz.sizeOf4
 v4:=zeroValue4
 t5:=underlying5
 a5:=Tryz.isAgg5
 z5:=Tryz.sizeOf5
 v5:=zeroValue5
 t9:=underlying9
 a9:=Tryz.isAgg9
 z9:=Tryz.sizeOf9
 v9:=zeroValue9
 t22:=underlying36
 a22:=Tryz.isAgg36
 z22:=Tryz.sizeOf36
 v22:=zeroValue36
 t23:=underlying36
 a23:=Tryz.isAgg36
 z23:=Tryz.sizeOf36
 v23:=zeroValue36
 t25:=underlying3
 a25:=Tryz.isAgg3
 z25:=Tryz.sizeOf3
 v25:=zeroValue3
 t32:=underlying218
 a32:=Tryz.isAgg218
 z32:=Tryz.sizeOf218
 v32:=zeroValue218
 t35:=underlying247
 a35:=Tryz.isAgg247
 z35:=Tryz.sizeOf247
 v35:=zeroValue247
 t36:=underlying248
 a36:=Tryz.isAgg248
 z36:=Tryz.sizeOf248
 v36:=zeroValue248
 t41:=underlying146
 a41:=Tryz.isAgg146
 z41:=Tryz.sizeOf146
 v41:=zeroValue146
 t44:=underlying255
 a44:=Tryz.isAgg255
 z44:=Tryz.sizeOf255
 v44:=zeroValue255
 t46:=underlying257
 a46:=Tryz.isAgg257
 z46:=Tryz.sizeOf257
 v46:=zeroValue257
 t53:=underlying276
 a53:=Tryz.isAgg276
 z53:=Tryz.sizeOf276
 v53:=zeroValue276
 t57:=underlying280
 a57:=Tryz.isAgg280
 z57:=Tryz.sizeOf280
 v57:=zeroValue280
 t63:=underlying293
 a63:=Tryz.isAgg293
 z63:=Tryz.sizeOf293
 v63:=zeroValue293
 t64:=underlying294
 a64:=Tryz.isAgg294
 z64:=Tryz.sizeOf294
 v64:=zeroValue294 }
def Tryz.laysKeys_ren:Go.Shelf.Ren:=⟨fun | 7=>204 | 10=>216 | n=>n,fun | 23=>119 | 26=>9 | 3=>3 | 28=>290 | 0=>0 | 27=>289 | 33=>282 | 4=>4 | n=>n,fun | n=>n⟩
theorem Tryz.laysKeys:Go.Proofs.SlLaysZ.n7 prog Tryz.laysKeys_ren:={
 mixed:=by kernel_rfl
 f7:=⟨Tryz.f204.name,by decide,func204.trans (congrArg some (by kernel_rfl))⟩
 f10:=⟨Tryz.f216.name,by decide,func216.trans (congrArg some (by kernel_rfl))⟩
 t0:=underlying0
 a0:=Tryz.isAgg0
 z0:=Tryz.sizeOf0
 v0:=zeroValue0
 t4:=underlying4
 a4:=Tryz.isAgg4
 z4:=Tryz.sizeOf4
 v4:=zeroValue4
 t23:=underlying119
 a23:=Tryz.isAgg119
 z23:=Tryz.sizeOf119
 v23:=zeroValue119
 t26:=underlying9
 a26:=Tryz.isAgg9
 z26:=Tryz.sizeOf9
 v26:=zeroValue9
 t27:=underlying289
 a27:=Tryz.isAgg289
 z27:=Tryz.sizeOf289
 v27:=zeroValue289
 t28:=underlying290
 a28:=Tryz.isAgg290
 z28:=Tryz.sizeOf290
 v28:=zeroValue290
 t33:=underlying282
 a33:=Tryz.isAgg282
 z33:=Tryz.sizeOf282
 v33:=zeroValue282 }
def Tryz.laysSorted_ren:Go.Shelf.Ren:=⟨fun | 6=>203 | 8=>215 | 9=>88 | 11=>223 | 13=>127 | 12=>126 | 23=>156 | 24=>157 | 14=>147 | 15=>148 | 16=>149 | 17=>150 | 18=>151 | 19=>152 | 20=>153 | 21=>154 | 22=>155 | 25=>181 | 26=>182 | 27=>183 | 28=>184 | 29=>185 | 30=>186 | 31=>207 | n=>n,fun | 26=>9 | 28=>290 | 24=>39 | 0=>0 | 3=>3 | 37=>218 | 48=>255 | 50=>257 | 4=>4 | 40=>248 | 39=>247 | 45=>146 | 5=>5 | 9=>9 | 51=>276 | 55=>280 | 57=>293 | 58=>294 | 33=>282 | n=>n,fun | n=>n⟩
theorem Tryz.laysSorted:Go.Proofs.SlLaysZ.n6 prog Tryz.laysSorted_ren:={
 mixed:=by kernel_rfl
 f6:=⟨Tryz.f203.name,by decide,func203.trans (congrArg some (by kernel_rfl))⟩
 f8:=⟨Tryz.f215.name,by decide,func215.trans (congrArg some (by kernel_rfl))⟩
 f11:=⟨Tryz.f223.name,by decide,func223.trans (congrArg some (by kernel_rfl))⟩
 t0:=underlying0
 a0:=Tryz.isAgg0
 z0:=Tryz.sizeOf0
 v0:=zeroValue0
 t24:=underlying39
 a24:=Tryz.isAgg39
 z24:=Tryz.sizeOf39
 v24:=zeroValue39
 t26:=underlying9
 a26:=Tryz.isAgg9
 z26:=Tryz.sizeOf9
 v26:=zeroValue9
 t28:=underlying290
 a28:=Tryz.isAgg290
 z28:=Tryz.sizeOf290
 v28:=zeroValue290
 i26:=by kernel_rfl }
def Tryz.laysSort_ren:Go.Shelf.Ren:=⟨fun | 6=>88 | 8=>127 | 9=>126 | 19=>156 | 20=>157 | 21=>147 | 22=>148 | 23=>149 | 24=>150 | 25=>151 | 26=>152 | 27=>153 | 28=>154 | 29=>155 | 36=>181 | 31=>182 | 32=>183 | 37=>184 | 38=>185 | 39=>186 | 41=>207 | n=>n,fun | 27=>39 | 29=>9 | 3=>3 | 32=>218 | 26=>39 | 0=>0 | 44=>255 | 46=>257 | 4=>4 | 36=>248 | 35=>247 | 41=>146 | 5=>5 | 9=>9 | 53=>276 | 57=>280 | 63=>293 | 64=>294 | n=>n,fun | n=>n⟩
theorem Tryz.laysSort:Go.Proofs.SlLaysM.n6 prog Tryz.laysSort_ren:={
 mixed:=by kernel_rfl
 f6:=⟨Tryz.f88.name,by decide,func88.trans (congrArg some (by kernel_rfl))⟩
 f8:=func127.trans (congrArg some (by kernel_rfl))
 f9:=⟨Tryz.f126.name,by decide,func126.trans (congrArg some (by kernel_rfl))⟩
 f19:=func156.trans (congrArg some (by kernel_rfl))
 f20:=func157.trans (congrArg some (by kernel_rfl))
 f21:=⟨Tryz.f147.name,by decide,func147.trans (congrArg some (by kernel_rfl))⟩
 f22:=⟨Tryz.f148.name,by decide,func148.trans (congrArg some (by kernel_rfl))⟩
 f23:=⟨Tryz.f149.name,by decide,func149.trans (congrArg some (by kernel_rfl))⟩
 f24:=⟨Tryz.f150.name,by decide,func150.trans (congrArg some (by kernel_rfl))⟩
 f25:=⟨Tryz.f151.name,by decide,func151.trans (congrArg some (by kernel_rfl))⟩
 f26:=⟨Tryz.f152.name,by decide,func152.trans (congrArg some (by kernel_rfl))⟩
 f27:=⟨Tryz.f153.name,by decide,func153.trans (congrArg some (by kernel_rfl))⟩
 f28:=⟨Tryz.f154.name,by decide,func154.trans (congrArg some (by kernel_rfl))⟩
 f29:=⟨Tryz.f155.name,by decide,func155.trans (congrArg some (by kernel_rfl))⟩
 f31:=func182.trans (congrArg some (by kernel_rfl))
 f32:=func183.trans (congrArg some (by kernel_rfl))
 f36:=⟨Tryz.f181.name,by decide,func181.trans (congrArg some (by kernel_rfl))⟩
 f37:=⟨Tryz.f184.name,by decide,func184.trans (congrArg some (by kernel_rfl))⟩
 f38:=⟨Tryz.f185.name,by decide,func185.trans (congrArg some (by kernel_rfl))⟩
 f39:=⟨Tryz.f186.name,by decide,func186.trans (congrArg some (by kernel_rfl))⟩
 f41:=⟨Tryz.f207.name,by decide,func207.trans (congrArg some (by kernel_rfl))⟩
 t0:=underlying0
 a0:=Tryz.isAgg0
 z0:=Tryz.sizeOf0
 v0:=zeroValue0
 t3:=underlying3
 a3:=Tryz.isAgg3
 z3:=Tryz.sizeOf3
 v3:=zeroValue3
 t4:=underlying4
 a4:=Tryz.isAgg4
 z4:=Tryz.sizeOf4
 v4:=zeroValue4
 t5:=underlying5
 a5:=Tryz.isAgg5
 z5:=Tryz.sizeOf5
 v5:=zeroValue5
 t9:=underlying9
 a9:=Tryz.isAgg9
 z9:=Tryz.sizeOf9
 v9:=zeroValue9
 t26:=underlying39
 a26:=Tryz.isAgg39
 z26:=Tryz.sizeOf39
 v26:=zeroValue39
 t27:=underlying39
 a27:=Tryz.isAgg39
 z27:=Tryz.sizeOf39
 v27:=zeroValue39
 t29:=underlying9
 a29:=Tryz.isAgg9
 z29:=Tryz.sizeOf9
 v29:=zeroValue9
 t32:=underlying218
 a32:=Tryz.isAgg218
 z32:=Tryz.sizeOf218
 v32:=zeroValue218
 t35:=underlying247
 a35:=Tryz.isAgg247
 z35:=Tryz.sizeOf247
 v35:=zeroValue247
 t36:=underlying248
 a36:=Tryz.isAgg248
 z36:=Tryz.sizeOf248
 v36:=zeroValue248
 t41:=underlying146
 a41:=Tryz.isAgg146
 z41:=Tryz.sizeOf146
 v41:=zeroValue146
 t44:=underlying255
 a44:=Tryz.isAgg255
 z44:=Tryz.sizeOf255
 v44:=zeroValue255
 t46:=underlying257
 a46:=Tryz.isAgg257
 z46:=Tryz.sizeOf257
 v46:=zeroValue257
 t53:=underlying276
 a53:=Tryz.isAgg276
 z53:=Tryz.sizeOf276
 v53:=zeroValue276
 t57:=underlying280
 a57:=Tryz.isAgg280
 z57:=Tryz.sizeOf280
 v57:=zeroValue280
 t63:=underlying293
 a63:=Tryz.isAgg293
 z63:=Tryz.sizeOf293
 v63:=zeroValue293
 t64:=underlying294
 a64:=Tryz.isAgg294
 z64:=Tryz.sizeOf294
 v64:=zeroValue294 }
end Go.Proofs
