/- The library's contracts that this claim leans on, laid at this program (by the kit's lay-shelf and lay-plain, those that are wanted): strconv.Itoa, strconv.Atoi, strings.Replace and their kin. -/
import Derived.Shelf.Strings.Builder1
import Derived.Shelf.Strings.Builder2
import Derived.Shelf.Small.Bits
import Derived.Shelf.Small.Strs
import Derived.Shelf.Small.Wraps
import Derived.Shelf.Strconv.Atoi
import Derived.Shelf.Strconv.Itoa0
import Derived.Shelf.Strconv.Itoa1
import Derived.Shelf.LaysM
import Derived.Shelf.Strconv.Itoa2
import Derived.Shelf.Strconv.Itoa3
import Derived.Shelf.Strconv.AtoiErrFast
import Derived.Shelf.Strconv.ParseIntEmpty
import Derived.Shelf.Strconv.AtoiFail
import Derived.Shelf.Strconv.Clone
import Derived.Shelf.Strconv.SyntaxError
import Derived.Shelf.LaysC
import Derived.Shelf.Strconv.ToError
import Derived.Shelf.Strconv.Lower
import Derived.Shelf.Strconv.ParseUint10
import Derived.Shelf.Strconv.ParseUint10Empty
import Derived.Shelf.Strconv.ParseUint10Any
import Derived.Shelf.Strconv.ParseInt10
import Derived.Shelf.Strconv.AtoiLong
import Derived.Shelf.Strconv.AtoiInnerAll
import Derived.Shelf.Strconv.RangeError
import Derived.Shelf.Strconv.ToErrorRange
import Derived.Shelf.Strconv.AtoiAll
import Derived.Shelf.Strconv.ErrVarAll
import Derived.Shelf.Strings.Search1
import Derived.Shelf.Strings.Search2
import Derived.Shelf.Strings.Search3
import Derived.Shelf.Strings.Count
import Derived.Shelf.Strings.Shaped
import Derived.Ground.GgsProg
import Derived.Shelf.GgSortFunc.Insertion
import Derived.Shelf.GgSortFunc.Small
import Derived.Shelf.GgSortFunc.InsertionK
import Derived.Shelf.GgSortFunc.SmallK
import Derived.Shelf.GgSortFunc.Compose
import Derived.Shelf.GgSortFunc.LotD
import Derived.Shelf.Strings.Prefix
import Derived.Shelf.Strings.Split
import Derived.Shelf.Strings.Replace
import Derived.Shelf.Strings.SplitShaped
import Derived.Shelf.Unicode.DecodeSlow
import Derived.Shelf.SlSortFunc.Xorshift
import Derived.Shelf.SlSortFuncK.ComposeK
import Derived.Shelf.SlSortFuncK.SiftDownK
import Derived.Shelf.SlSortFuncK.HeapSortK
import Derived.Shelf.SlSortFuncK.PartialInsertionK
import Derived.Shelf.SlSortFuncK.LotDK
import Derived.Shelf.SlSortFuncK.PivotK
import Derived.Shelf.SlSortFuncK.PartitionK
import Derived.Shelf.SlSortFuncK.PdqK
import Derived.Shelf.SlSortFuncK.WholeK
import Derived.Ground.SlgmProg
import Derived.Shelf.SortM.Plain
import Derived.Shelf.SortM.SortNone
import Derived.Test.YtcfgacdcgljbaaaGreatDoorProg
namespace Go.Proofs
open Go.Shelf
def Tryz.laysGg6_ren : Go.Shelf.Ren := ⟨fun | 6 => 72 | 10 => 119 | 11 => 120 | 12 => 121 | 13 => 109 | 14 => 122 | 24 => 162 | 25 => 163 | 26 => 178 | 27 => 179 | 28 => 180 | 29 => 181 | 30 => 182 | 31 => 183 | 32 => 184 | 33 => 185 | 34 => 225 | 35 => 226 | 36 => 227 | 37 => 228 | 38 => 229 | 39 => 258 | n => n, fun | 20 => 20 | 26 => 178 | 35 => 230 | 0 => 0 | 37 => 205 | 3 => 3 | 41 => 219 | 44 => 235 | 49 => 267 | 51 => 222 | 4 => 4 | 54 => 276 | 53 => 275 | 58 => 264 | 5 => 5 | 9 => 9 | 60 => 312 | 64 => 304 | 66 => 338 | 67 => 195 | 17 => 17 | 32 => 227 | 33 => 228 | 82 => 382 | 12 => 12 | 75 => 377 | 76 => 324 | 77 => 378 | 78 => 225 | 79 => 379 | 80 => 380 | n => n, fun | n => n⟩
theorem Tryz.laysGg6 : Go.Proofs.LaysGg.n6 Tryz.prog Tryz.laysGg6_ren := {
  mixed := by kernel_rfl
  f6 := Tryz.func72.trans (congrArg some (by kernel_rfl))
  f10 := Tryz.func119.trans (congrArg some (by kernel_rfl))
  f11 := Tryz.func120.trans (congrArg some (by kernel_rfl))
  f12 := Tryz.func121.trans (congrArg some (by kernel_rfl))
  f13 := Tryz.func109.trans (congrArg some (by kernel_rfl))
  f14 := Tryz.func122.trans (congrArg some (by kernel_rfl))
  f24 := Tryz.func162.trans (congrArg some (by kernel_rfl))
  f25 := Tryz.func163.trans (congrArg some (by kernel_rfl))
  f26 := Tryz.func178.trans (congrArg some (by kernel_rfl))
  f27 := Tryz.func179.trans (congrArg some (by kernel_rfl))
  f28 := Tryz.func180.trans (congrArg some (by kernel_rfl))
  f29 := Tryz.func181.trans (congrArg some (by kernel_rfl))
  f30 := Tryz.func182.trans (congrArg some (by kernel_rfl))
  f31 := Tryz.func183.trans (congrArg some (by kernel_rfl))
  f32 := Tryz.func184.trans (congrArg some (by kernel_rfl))
  f33 := Tryz.func185.trans (congrArg some (by kernel_rfl))
  f34 := Tryz.func225.trans (congrArg some (by kernel_rfl))
  f35 := Tryz.func226.trans (congrArg some (by kernel_rfl))
  f36 := Tryz.func227.trans (congrArg some (by kernel_rfl))
  f37 := Tryz.func228.trans (congrArg some (by kernel_rfl))
  f38 := Tryz.func229.trans (congrArg some (by kernel_rfl))
  f39 := Tryz.func258.trans (congrArg some (by kernel_rfl))
  t0 := Tryz.underlying0
  a0 := Tryz.isAgg0
  z0 := Tryz.sizeOf0
  v0 := Tryz.zeroValue0
  i0 := by kernel_rfl
  t3 := Tryz.underlying3
  a3 := Tryz.isAgg3
  z3 := Tryz.sizeOf3
  v3 := Tryz.zeroValue3
  i3 := by kernel_rfl
  t4 := Tryz.underlying4
  a4 := Tryz.isAgg4
  z4 := Tryz.sizeOf4
  v4 := Tryz.zeroValue4
  i4 := by kernel_rfl
  t5 := Tryz.underlying5
  a5 := Tryz.isAgg5
  z5 := Tryz.sizeOf5
  v5 := Tryz.zeroValue5
  i5 := by kernel_rfl
  t9 := Tryz.underlying9
  a9 := Tryz.isAgg9
  z9 := Tryz.sizeOf9
  v9 := Tryz.zeroValue9
  i9 := by kernel_rfl
  t12 := Tryz.underlying12
  a12 := Tryz.isAgg12
  z12 := Tryz.sizeOf12
  v12 := Tryz.zeroValue12
  i12 := by kernel_rfl
  t17 := Tryz.underlying17
  a17 := Tryz.isAgg17
  z17 := Tryz.sizeOf17
  v17 := Tryz.zeroValue17
  i17 := by kernel_rfl
  t20 := Tryz.underlying20
  a20 := Tryz.isAgg20
  z20 := Tryz.sizeOf20
  v20 := Tryz.zeroValue20
  i20 := by kernel_rfl
  t26 := Tryz.underlying178
  a26 := Tryz.isAgg178
  z26 := Tryz.sizeOf178
  v26 := Tryz.zeroValue178
  i26 := by kernel_rfl
  t32 := Tryz.underlying227
  a32 := Tryz.isAgg227
  z32 := Tryz.sizeOf227
  v32 := Tryz.zeroValue227
  i32 := by kernel_rfl
  t33 := Tryz.underlying228
  a33 := Tryz.isAgg228
  z33 := Tryz.sizeOf228
  v33 := Tryz.zeroValue228
  i33 := by kernel_rfl
  t35 := Tryz.underlying230
  a35 := Tryz.isAgg230
  z35 := Tryz.sizeOf230
  v35 := Tryz.zeroValue230
  i35 := by kernel_rfl
  t37 := Tryz.underlying205
  a37 := Tryz.isAgg205
  z37 := Tryz.sizeOf205
  v37 := Tryz.zeroValue205
  i37 := by kernel_rfl
  t41 := Tryz.underlying219
  a41 := Tryz.isAgg219
  z41 := Tryz.sizeOf219
  v41 := Tryz.zeroValue219
  i41 := by kernel_rfl
  t44 := Tryz.underlying235
  a44 := Tryz.isAgg235
  z44 := Tryz.sizeOf235
  v44 := Tryz.zeroValue235
  i44 := by kernel_rfl
  t49 := Tryz.underlying267
  a49 := Tryz.isAgg267
  z49 := Tryz.sizeOf267
  v49 := Tryz.zeroValue267
  i49 := by kernel_rfl
  t51 := Tryz.underlying222
  a51 := Tryz.isAgg222
  z51 := Tryz.sizeOf222
  v51 := Tryz.zeroValue222
  i51 := by kernel_rfl
  t53 := Tryz.underlying275
  a53 := Tryz.isAgg275
  z53 := Tryz.sizeOf275
  v53 := Tryz.zeroValue275
  i53 := by kernel_rfl
  t54 := Tryz.underlying276
  a54 := Tryz.isAgg276
  z54 := Tryz.sizeOf276
  v54 := Tryz.zeroValue276
  i54 := by kernel_rfl
  t58 := Tryz.underlying264
  a58 := Tryz.isAgg264
  z58 := Tryz.sizeOf264
  v58 := Tryz.zeroValue264
  i58 := by kernel_rfl
  t60 := Tryz.underlying312
  a60 := Tryz.isAgg312
  z60 := Tryz.sizeOf312
  v60 := Tryz.zeroValue312
  i60 := by kernel_rfl
  t64 := Tryz.underlying304
  a64 := Tryz.isAgg304
  z64 := Tryz.sizeOf304
  v64 := Tryz.zeroValue304
  i64 := by kernel_rfl
  t66 := Tryz.underlying338
  a66 := Tryz.isAgg338
  z66 := Tryz.sizeOf338
  v66 := Tryz.zeroValue338
  i66 := by kernel_rfl
  t67 := Tryz.underlying195
  a67 := Tryz.isAgg195
  z67 := Tryz.sizeOf195
  v67 := Tryz.zeroValue195
  i67 := by kernel_rfl
  t75 := Tryz.underlying377
  a75 := Tryz.isAgg377
  z75 := Tryz.sizeOf377
  v75 := Tryz.zeroValue377
  i75 := by kernel_rfl
  t76 := Tryz.underlying324
  a76 := Tryz.isAgg324
  z76 := Tryz.sizeOf324
  v76 := Tryz.zeroValue324
  i76 := by kernel_rfl
  t77 := Tryz.underlying378
  a77 := Tryz.isAgg378
  z77 := Tryz.sizeOf378
  v77 := Tryz.zeroValue378
  i77 := by kernel_rfl
  t78 := Tryz.underlying225
  a78 := Tryz.isAgg225
  z78 := Tryz.sizeOf225
  v78 := Tryz.zeroValue225
  i78 := by kernel_rfl
  t79 := Tryz.underlying379
  a79 := Tryz.isAgg379
  z79 := Tryz.sizeOf379
  v79 := Tryz.zeroValue379
  i79 := by kernel_rfl
  t80 := Tryz.underlying380
  a80 := Tryz.isAgg380
  z80 := Tryz.sizeOf380
  v80 := Tryz.zeroValue380
  i80 := by kernel_rfl
  t82 := Tryz.underlying382
  a82 := Tryz.isAgg382
  z82 := Tryz.sizeOf382
  v82 := Tryz.zeroValue382
  i82 := by kernel_rfl }
end Go.Proofs
