/-  -/
import Derived.Shelf.Unicode.IsSpaceAny
import Derived.Shelf.Strings.FieldsAny
import Derived.Test.YtbleojodidbhiaaGreatDoorProg
import Derived.Shelf.Strings.IndexAny
import Derived.Shelf.Strings.IndexAnyAll
import Derived.Shelf.Slices.Turned
import Derived.Shelf.Strings.Count
import Derived.KernelRfl
namespace Go.Proofs
open Go.Shelf
def Tryz.lays157_ren:Go.Shelf.Ren:=⟨fun | 157=>9 | 229=>25 | 199=>26 | 261=>54 | 311=>100 | 312=>101 | n=>n,fun | 9=>9 | 31=>22 | 3=>3 | 5=>5 | 4=>4 | 119=>57 | 0=>0 | 40=>59 | 152=>106 | 21=>21 | 154=>108 | 51=>109 | 141=>111 | 196=>132 | 193=>129 | 198=>135 | 49=>133 | 194=>130 | 201=>138 | 226=>210 | 46=>73 | 227=>211 | n=>n,fun | 0=>0 | 6=>1 | n=>n⟩
theorem Tryz.lays157:Go.Proofs.Lays.n157 Tryz.prog Tryz.lays157_ren:={
 mixed:=by kernel_rfl
 f157:=Tryz.func9.trans (congrArg some (by kernel_rfl))
 f199:=Tryz.func26.trans (congrArg some (by kernel_rfl))
 f229:=Tryz.func25.trans (congrArg some (by kernel_rfl))
 f261:=Tryz.func54.trans (congrArg some (by kernel_rfl))
 f311:=Tryz.func100.trans (congrArg some (by kernel_rfl))
 f312:=Tryz.func101.trans (congrArg some (by kernel_rfl))
 t0:=Tryz.underlying0
 a0:=Tryz.isAgg0
 z0:=Tryz.sizeOf0
 v0:=Tryz.zeroValue0
 t3:=Tryz.underlying3
 a3:=Tryz.isAgg3
 z3:=Tryz.sizeOf3
 v3:=Tryz.zeroValue3
 t4:=Tryz.underlying4
 a4:=Tryz.isAgg4
 z4:=Tryz.sizeOf4
 v4:=Tryz.zeroValue4
 t5:=Tryz.underlying5
 a5:=Tryz.isAgg5
 z5:=Tryz.sizeOf5
 v5:=Tryz.zeroValue5
 t9:=Tryz.underlying9
 a9:=Tryz.isAgg9
 z9:=Tryz.sizeOf9
 v9:=Tryz.zeroValue9
 t21:=Tryz.underlying21
 a21:=Tryz.isAgg21
 z21:=Tryz.sizeOf21
 v21:=Tryz.zeroValue21
 t31:=Tryz.underlying22
 a31:=Tryz.isAgg22
 z31:=Tryz.sizeOf22
 v31:=Tryz.zeroValue22
 t40:=Tryz.underlying59
 a40:=Tryz.isAgg59
 z40:=Tryz.sizeOf59
 v40:=Tryz.zeroValue59
 t46:=Tryz.underlying73
 a46:=Tryz.isAgg73
 z46:=Tryz.sizeOf73
 v46:=Tryz.zeroValue73
 t49:=Tryz.underlying133
 a49:=Tryz.isAgg133
 z49:=Tryz.sizeOf133
 v49:=Tryz.zeroValue133
 t51:=Tryz.underlying109
 a51:=Tryz.isAgg109
 z51:=Tryz.sizeOf109
 v51:=Tryz.zeroValue109
 t119:=Tryz.underlying57
 a119:=Tryz.isAgg57
 z119:=Tryz.sizeOf57
 t141:=Tryz.underlying111
 a141:=Tryz.isAgg111
 z141:=Tryz.sizeOf111
 v141:=Tryz.zeroValue111
 t152:=Tryz.underlying106
 a152:=Tryz.isAgg106
 z152:=Tryz.sizeOf106
 v152:=Tryz.zeroValue106
 t154:=Tryz.underlying108
 a154:=Tryz.isAgg108
 z154:=Tryz.sizeOf108
 v154:=Tryz.zeroValue108
 t193:=Tryz.underlying129
 a193:=Tryz.isAgg129
 z193:=Tryz.sizeOf129
 v193:=Tryz.zeroValue129
 t194:=Tryz.underlying130
 a194:=Tryz.isAgg130
 z194:=Tryz.sizeOf130
 v194:=Tryz.zeroValue130
 t196:=Tryz.underlying132
 a196:=Tryz.isAgg132
 z196:=Tryz.sizeOf132
 v196:=Tryz.zeroValue132
 t198:=Tryz.underlying135
 a198:=Tryz.isAgg135
 z198:=Tryz.sizeOf135
 v198:=Tryz.zeroValue135
 t201:=Tryz.underlying138
 a201:=Tryz.isAgg138
 z201:=Tryz.sizeOf138
 v201:=Tryz.zeroValue138
 t226:=Tryz.underlying210
 a226:=Tryz.isAgg210
 z226:=Tryz.sizeOf210
 v226:=Tryz.zeroValue210
 t227:=Tryz.underlying211
 a227:=Tryz.isAgg211
 z227:=Tryz.sizeOf211
 v227:=Tryz.zeroValue211
 g0:=by kernel_rfl
 g6:=by kernel_rfl }
open Go.RowKit Go.Lib in
theorem Tryz.strings_Fields_any (s:ByteArray) (w:World) (hs:s.size < 4294967281) (htab:Lib.TabIs Tryz.prog w "strings.asciiSpace" .u8 Lib.asciiSpaceTab) (hW:Lib.WhiteTab 1 w) :
  Calls Tryz.prog 9 #[.string s] w fun e w'=>∃ A,e = .returned (.slice (some ⟨A,0,none⟩) (Lib.fieldsD s.data.toList).length (Lib.fieldsD s.data.toList).length)∧w.heap.size≤A ∧
   w'.ownsRow w.heap.size 9 1 (.slice (some ⟨A,0,none⟩) (Lib.fieldsD s.data.toList).length (Lib.fieldsD s.data.toList).length) (Lib.fieldsD s.data.toList).length ((Lib.fieldsD s.data.toList).map fun x=>Value.string ⟨x.toArray⟩)∧Below w.heap.size w w':=Any.strings_Fields_any Tryz.lays157 (by kernel_rfl) (by kernel_rfl) (by kernel_rfl) s w hs htab hW
end Go.Proofs
namespace Go.Proofs
open Go.Shelf
def Tryz.lays153_ren:Go.Shelf.Ren:=⟨fun | 153=>24 | 152=>50 | 226=>51 | 227=>52 | 228=>53 | 137=>96 | 119=>97 | 224=>98 | 225=>99 | 217=>146 | 266=>195 | n=>n,fun | 9=>9 | 3=>3 | 4=>4 | 5=>5 | 21=>21 | 117=>103 | 116=>102 | 0=>0 | 46=>73 | 124=>128 | n=>n,fun | n=>n⟩
theorem Tryz.lays153:Go.Proofs.Lays.n153 Tryz.prog Tryz.lays153_ren:={
 mixed:=by kernel_rfl
 f119:=Tryz.func97.trans (congrArg some (by kernel_rfl))
 f137:=Tryz.func96.trans (congrArg some (by kernel_rfl))
 f152:=Tryz.func50.trans (congrArg some (by kernel_rfl))
 f153:=Tryz.func24.trans (congrArg some (by kernel_rfl))
 f217:=Tryz.func146.trans (congrArg some (by kernel_rfl))
 f224:=Tryz.func98.trans (congrArg some (by kernel_rfl))
 f225:=Tryz.func99.trans (congrArg some (by kernel_rfl))
 f226:=Tryz.func51.trans (congrArg some (by kernel_rfl))
 f227:=Tryz.func52.trans (congrArg some (by kernel_rfl))
 f228:=Tryz.func53.trans (congrArg some (by kernel_rfl))
 f266:=Tryz.func195.trans (congrArg some (by kernel_rfl))
 t0:=Tryz.underlying0
 a0:=Tryz.isAgg0
 z0:=Tryz.sizeOf0
 v0:=Tryz.zeroValue0
 t3:=Tryz.underlying3
 a3:=Tryz.isAgg3
 z3:=Tryz.sizeOf3
 v3:=Tryz.zeroValue3
 t4:=Tryz.underlying4
 a4:=Tryz.isAgg4
 z4:=Tryz.sizeOf4
 v4:=Tryz.zeroValue4
 t5:=Tryz.underlying5
 a5:=Tryz.isAgg5
 z5:=Tryz.sizeOf5
 v5:=Tryz.zeroValue5
 t9:=Tryz.underlying9
 a9:=Tryz.isAgg9
 z9:=Tryz.sizeOf9
 v9:=Tryz.zeroValue9
 t21:=Tryz.underlying21
 a21:=Tryz.isAgg21
 z21:=Tryz.sizeOf21
 v21:=Tryz.zeroValue21
 t46:=Tryz.underlying73
 a46:=Tryz.isAgg73
 z46:=Tryz.sizeOf73
 v46:=Tryz.zeroValue73
 t116:=Tryz.underlying102
 a116:=Tryz.isAgg102
 z116:=Tryz.sizeOf102
 t117:=Tryz.underlying103
 a117:=Tryz.isAgg103
 z117:=Tryz.sizeOf103
 v117:=Tryz.zeroValue103
 t124:=Tryz.underlying128
 a124:=Tryz.isAgg128
 z124:=Tryz.sizeOf128
 v124:=Tryz.zeroValue128 }
open Go.RowKit Go.Lib in
theorem Tryz.strings_IndexAny_one (s chars:ByteArray) (w:World) (h1:chars.size=1) (hascii:∀ (j:Nat) b,chars.data.toList[j]?=some b→b.toNat < 128) :
  Calls Tryz.prog 24 #[.string s,.string chars] w fun e w'=>e = .returned (.int .i64 (Lib.indexAny s.data.toList chars.data.toList))∧w'=w:=Any.strings_IndexAny_one Tryz.lays153 s chars w h1 hascii
def Tryz.lays150_ren:Go.Shelf.Ren:=⟨fun | 150=>7 | 153=>24 | 152=>50 | 226=>51 | 227=>52 | 228=>53 | 137=>96 | 119=>97 | 224=>98 | 225=>99 | 217=>146 | 266=>195 | n=>n,fun | 9=>9 | 4=>4 | 3=>3 | 5=>5 | 21=>21 | 117=>103 | 116=>102 | 0=>0 | 46=>73 | 124=>128 | n=>n,fun | n=>n⟩
theorem Tryz.lays150:Go.Proofs.Lays.n150 Tryz.prog Tryz.lays150_ren:={
 mixed:=by kernel_rfl
 f119:=Tryz.func97.trans (congrArg some (by kernel_rfl))
 f137:=Tryz.func96.trans (congrArg some (by kernel_rfl))
 f150:=Tryz.func7.trans (congrArg some (by kernel_rfl))
 f152:=Tryz.func50.trans (congrArg some (by kernel_rfl))
 f153:=Tryz.func24.trans (congrArg some (by kernel_rfl))
 f217:=Tryz.func146.trans (congrArg some (by kernel_rfl))
 f224:=Tryz.func98.trans (congrArg some (by kernel_rfl))
 f225:=Tryz.func99.trans (congrArg some (by kernel_rfl))
 f226:=Tryz.func51.trans (congrArg some (by kernel_rfl))
 f227:=Tryz.func52.trans (congrArg some (by kernel_rfl))
 f228:=Tryz.func53.trans (congrArg some (by kernel_rfl))
 f266:=Tryz.func195.trans (congrArg some (by kernel_rfl))
 t0:=Tryz.underlying0
 a0:=Tryz.isAgg0
 z0:=Tryz.sizeOf0
 v0:=Tryz.zeroValue0
 t3:=Tryz.underlying3
 a3:=Tryz.isAgg3
 z3:=Tryz.sizeOf3
 v3:=Tryz.zeroValue3
 t4:=Tryz.underlying4
 a4:=Tryz.isAgg4
 z4:=Tryz.sizeOf4
 v4:=Tryz.zeroValue4
 t5:=Tryz.underlying5
 a5:=Tryz.isAgg5
 z5:=Tryz.sizeOf5
 v5:=Tryz.zeroValue5
 t9:=Tryz.underlying9
 a9:=Tryz.isAgg9
 z9:=Tryz.sizeOf9
 v9:=Tryz.zeroValue9
 t21:=Tryz.underlying21
 a21:=Tryz.isAgg21
 z21:=Tryz.sizeOf21
 v21:=Tryz.zeroValue21
 t46:=Tryz.underlying73
 a46:=Tryz.isAgg73
 z46:=Tryz.sizeOf73
 v46:=Tryz.zeroValue73
 t116:=Tryz.underlying102
 a116:=Tryz.isAgg102
 z116:=Tryz.sizeOf102
 t117:=Tryz.underlying103
 a117:=Tryz.isAgg103
 z117:=Tryz.sizeOf103
 v117:=Tryz.zeroValue103
 t124:=Tryz.underlying128
 a124:=Tryz.isAgg128
 z124:=Tryz.sizeOf128
 v124:=Tryz.zeroValue128 }
open Go.RowKit Go.Lib in
theorem Tryz.strings_ContainsAny_laid (s chars:ByteArray) (w:World) (hs:s.size < 4294967281) (hcs:chars.size < 4294967281) (has:∀ (j:Nat) b,s.data.toList[j]?=some b→b.toNat < 128) (hac:∀ (j:Nat) b,chars.data.toList[j]?=some b→b.toNat < 128) :
  Calls Tryz.prog 7 #[.string s,.string chars] w fun e w'=>e = .returned (.bool (Lib.containsAny s.data.toList chars.data.toList))∧Below w.heap.size w w':=Any.strings_ContainsAny_laid Tryz.lays150 (by kernel_rfl) s chars w hs hcs has hac
end Go.Proofs
namespace Go.Proofs
open Go.Shelf
def Tryz.lays110_ren:Go.Shelf.Ren:=⟨fun | 110=>10 | 109=>27 | n=>n,fun | 31=>22 | 9=>9 | 4=>4 | 3=>3 | 0=>0 | n=>n,fun | n=>n⟩
theorem Tryz.lays110:Go.Proofs.Lays.n110 Tryz.prog Tryz.lays110_ren:={
 mixed:=by kernel_rfl
 f109:=Tryz.func27.trans (congrArg some (by kernel_rfl))
 f110:=Tryz.func10.trans (congrArg some (by kernel_rfl))
 t0:=Tryz.underlying0
 a0:=Tryz.isAgg0
 z0:=Tryz.sizeOf0
 v0:=Tryz.zeroValue0
 t3:=Tryz.underlying3
 a3:=Tryz.isAgg3
 z3:=Tryz.sizeOf3
 v3:=Tryz.zeroValue3
 t4:=Tryz.underlying4
 a4:=Tryz.isAgg4
 z4:=Tryz.sizeOf4
 v4:=Tryz.zeroValue4
 t9:=Tryz.underlying9
 a9:=Tryz.isAgg9
 z9:=Tryz.sizeOf9
 v9:=Tryz.zeroValue9
 t31:=Tryz.underlying22
 a31:=Tryz.isAgg22
 z31:=Tryz.sizeOf22
 v31:=Tryz.zeroValue22 }
open Go.Lib in
theorem Tryz.slices_Contains_string (b off n c:Nat) (zs:List ByteArray) (x:ByteArray) (w:World) (hz:n≤zs.length) (hbig:n≤9223372036854775807) (hc:∀ j,j < zs.length→w.cell? ⟨b,off + j,none⟩=some (.string (zs.getD j ByteArray.empty))) :
  Calls Tryz.prog 10 #[.slice (some ⟨b,off,none⟩) n c,.string x] w fun e w'=>e = .returned (.bool (Lib.containsS (zs.take n) x))∧w'=w:=Any.slices_Contains_string Tryz.lays110 b off n c zs x w hz hbig hc
end Go.Proofs
namespace Go.Proofs
open Go.Shelf
def Tryz.lays138_ren:Go.Shelf.Ren:=⟨fun | 138=>20 | 195=>43 | 218=>44 | 143=>45 | 219=>91 | 217=>146 | 225=>99 | 224=>98 | 267=>147 | 266=>195 | 314=>196 | n=>n,fun | 9=>9 | 3=>3 | 4=>4 | 5=>5 | 0=>0 | 46=>73 | 146=>248 | 51=>109 | n=>n,fun | 1=>2 | n=>n⟩
theorem Tryz.lays138:Go.Proofs.Lays.n138 Tryz.prog Tryz.lays138_ren:={
 mixed:=by kernel_rfl
 f138:=Tryz.func20.trans (congrArg some (by kernel_rfl))
 f143:=Tryz.func45.trans (congrArg some (by kernel_rfl))
 f195:=Tryz.func43.trans (congrArg some (by kernel_rfl))
 f217:=Tryz.func146.trans (congrArg some (by kernel_rfl))
 f218:=Tryz.func44.trans (congrArg some (by kernel_rfl))
 f219:=Tryz.func91.trans (congrArg some (by kernel_rfl))
 f224:=Tryz.func98.trans (congrArg some (by kernel_rfl))
 f225:=Tryz.func99.trans (congrArg some (by kernel_rfl))
 f266:=Tryz.func195.trans (congrArg some (by kernel_rfl))
 f267:=Tryz.func147.trans (congrArg some (by kernel_rfl))
 f314:=Tryz.func196.trans (congrArg some (by kernel_rfl))
 t0:=Tryz.underlying0
 a0:=Tryz.isAgg0
 z0:=Tryz.sizeOf0
 v0:=Tryz.zeroValue0
 t3:=Tryz.underlying3
 a3:=Tryz.isAgg3
 z3:=Tryz.sizeOf3
 v3:=Tryz.zeroValue3
 t4:=Tryz.underlying4
 a4:=Tryz.isAgg4
 z4:=Tryz.sizeOf4
 v4:=Tryz.zeroValue4
 t5:=Tryz.underlying5
 a5:=Tryz.isAgg5
 z5:=Tryz.sizeOf5
 v5:=Tryz.zeroValue5
 t9:=Tryz.underlying9
 a9:=Tryz.isAgg9
 z9:=Tryz.sizeOf9
 v9:=Tryz.zeroValue9
 t46:=Tryz.underlying73
 a46:=Tryz.isAgg73
 z46:=Tryz.sizeOf73
 v46:=Tryz.zeroValue73
 t51:=Tryz.underlying109
 a51:=Tryz.isAgg109
 z51:=Tryz.sizeOf109
 v51:=Tryz.zeroValue109
 t146:=Tryz.underlying248
 a146:=Tryz.isAgg248
 z146:=Tryz.sizeOf248
 v146:=Tryz.zeroValue248
 g1:=by kernel_rfl }
open Go.RowKit Go.Lib in
theorem Tryz.strings_Count_one (s:ByteArray) (c:UInt8) (w:World) :
  Calls Tryz.prog 20 #[.string s,.string ⟨#[c]⟩] w fun e w'=>e = .returned (.int .i64 (Lib.countByte s.data.toList c))∧w'=w:=Any.strings_Count_one Tryz.lays138 s c w
end Go.Proofs
namespace Go.Proofs
open Go.Shelf
def Tryz.lays199_ren:Go.Shelf.Ren:=⟨fun | 199=>26 | 261=>54 | 311=>100 | 312=>101 | n=>n,fun | 21=>21 | 4=>4 | 51=>109 | 141=>111 | 0=>0 | 196=>132 | 193=>129 | 3=>3 | 198=>135 | 49=>133 | 194=>130 | 201=>138 | 226=>210 | 46=>73 | 227=>211 | n=>n,fun | 6=>1 | n=>n⟩
theorem Tryz.lays199:Go.Proofs.Lays.n199 Tryz.prog Tryz.lays199_ren:={
 mixed:=by kernel_rfl
 f199:=Tryz.func26.trans (congrArg some (by kernel_rfl))
 f261:=Tryz.func54.trans (congrArg some (by kernel_rfl))
 f311:=Tryz.func100.trans (congrArg some (by kernel_rfl))
 f312:=Tryz.func101.trans (congrArg some (by kernel_rfl))
 t0:=Tryz.underlying0
 a0:=Tryz.isAgg0
 z0:=Tryz.sizeOf0
 v0:=Tryz.zeroValue0
 t3:=Tryz.underlying3
 a3:=Tryz.isAgg3
 z3:=Tryz.sizeOf3
 v3:=Tryz.zeroValue3
 t4:=Tryz.underlying4
 a4:=Tryz.isAgg4
 z4:=Tryz.sizeOf4
 v4:=Tryz.zeroValue4
 t21:=Tryz.underlying21
 a21:=Tryz.isAgg21
 z21:=Tryz.sizeOf21
 v21:=Tryz.zeroValue21
 t46:=Tryz.underlying73
 a46:=Tryz.isAgg73
 z46:=Tryz.sizeOf73
 v46:=Tryz.zeroValue73
 t49:=Tryz.underlying133
 a49:=Tryz.isAgg133
 z49:=Tryz.sizeOf133
 v49:=Tryz.zeroValue133
 t51:=Tryz.underlying109
 a51:=Tryz.isAgg109
 z51:=Tryz.sizeOf109
 v51:=Tryz.zeroValue109
 t141:=Tryz.underlying111
 a141:=Tryz.isAgg111
 z141:=Tryz.sizeOf111
 v141:=Tryz.zeroValue111
 t193:=Tryz.underlying129
 a193:=Tryz.isAgg129
 z193:=Tryz.sizeOf129
 v193:=Tryz.zeroValue129
 t194:=Tryz.underlying130
 a194:=Tryz.isAgg130
 z194:=Tryz.sizeOf130
 v194:=Tryz.zeroValue130
 t196:=Tryz.underlying132
 a196:=Tryz.isAgg132
 z196:=Tryz.sizeOf132
 v196:=Tryz.zeroValue132
 t198:=Tryz.underlying135
 a198:=Tryz.isAgg135
 z198:=Tryz.sizeOf135
 v198:=Tryz.zeroValue135
 t201:=Tryz.underlying138
 a201:=Tryz.isAgg138
 z201:=Tryz.sizeOf138
 v201:=Tryz.zeroValue138
 t226:=Tryz.underlying210
 a226:=Tryz.isAgg210
 z226:=Tryz.sizeOf210
 v226:=Tryz.zeroValue210
 t227:=Tryz.underlying211
 a227:=Tryz.isAgg211
 z227:=Tryz.sizeOf211
 v227:=Tryz.zeroValue211
 g6:=by kernel_rfl }
end Go.Proofs
