/-
  The library's contracts for slices.SortFunc over labels and strings.Compare, laid at this program's numbers: its bodies are the ones that the contracts were proved of.
-/
import Derived.Shelf.SlSortCmp.NoneTotal
import Derived.Shelf.Small.Strs
import Derived.Test.YthagpceagifjnaaDoorChecked
namespace Go.Proofs.YthagpceagifjnaaDoor.L3
open Go.Shelf Go.RowKit

def slRen : Ren := ⟨fun | 6 => 146 | 14 => 167 | 15 => 168 | 20 => 183 | 21 => 184 | 22 => 185 | 23 => 186 | 24 => 187 | 25 => 188 | 26 => 189 | 27 => 190 | 28 => 191 | 29 => 172 | 46 => 197 | 47 => 198 | 48 => 199 | 49 => 200 | 50 => 201 | 57 => 202 | n => n,
  fun | 0 => 0 | 3 => 3 | 4 => 4 | 5 => 5 | 9 => 9 | 22 => 61 | 24 => 105 | 25 => 141 | 39 => 128 | 45 => 167 | 46 => 168 | 50 => 26 | 53 => 148 | 55 => 77 | 66 => 179 | 70 => 183 | 76 => 187 | 77 => 81 | n => n, fun | n => n⟩
theorem slLays : SlLaysF0.n6 Tryd.prog slRen := {
  mixed := by kernel_rfl
  f6 := ⟨Tryd.f146.name, by kernel_rfl, Tryd.func146.trans (congrArg some (by kernel_rfl))⟩
  f14 := ⟨Tryd.f167.name, by kernel_rfl, Tryd.func167.trans (congrArg some (by kernel_rfl))⟩
  f15 := Tryd.func168.trans (congrArg some (by kernel_rfl))
  f20 := ⟨Tryd.f183.name, by kernel_rfl, Tryd.func183.trans (congrArg some (by kernel_rfl))⟩
  f21 := ⟨Tryd.f184.name, by kernel_rfl, Tryd.func184.trans (congrArg some (by kernel_rfl))⟩
  f22 := ⟨Tryd.f185.name, by kernel_rfl, Tryd.func185.trans (congrArg some (by kernel_rfl))⟩
  f23 := ⟨Tryd.f186.name, by kernel_rfl, Tryd.func186.trans (congrArg some (by kernel_rfl))⟩
  f24 := ⟨Tryd.f187.name, by kernel_rfl, Tryd.func187.trans (congrArg some (by kernel_rfl))⟩
  f25 := ⟨Tryd.f188.name, by kernel_rfl, Tryd.func188.trans (congrArg some (by kernel_rfl))⟩
  f26 := ⟨Tryd.f189.name, by kernel_rfl, Tryd.func189.trans (congrArg some (by kernel_rfl))⟩
  f27 := ⟨Tryd.f190.name, by kernel_rfl, Tryd.func190.trans (congrArg some (by kernel_rfl))⟩
  f28 := Tryd.func191.trans (congrArg some (by kernel_rfl))
  f29 := Tryd.func172.trans (congrArg some (by kernel_rfl))
  f46 := ⟨Tryd.f197.name, by kernel_rfl, Tryd.func197.trans (congrArg some (by kernel_rfl))⟩
  f47 := Tryd.func198.trans (congrArg some (by kernel_rfl))
  f48 := Tryd.func199.trans (congrArg some (by kernel_rfl))
  f49 := ⟨Tryd.f200.name, by kernel_rfl, Tryd.func200.trans (congrArg some (by kernel_rfl))⟩
  f50 := ⟨Tryd.f201.name, by kernel_rfl, Tryd.func201.trans (congrArg some (by kernel_rfl))⟩
  f57 := ⟨Tryd.f202.name, by kernel_rfl, Tryd.func202.trans (congrArg some (by kernel_rfl))⟩
  t0 := Tryd.underlying0
  a0 := Tryd.isAgg0
  z0 := Tryd.sizeOf0
  v0 := Tryd.zeroValue0
  t3 := Tryd.underlying3
  a3 := Tryd.isAgg3
  z3 := Tryd.sizeOf3
  v3 := Tryd.zeroValue3
  t4 := Tryd.underlying4
  a4 := Tryd.isAgg4
  z4 := Tryd.sizeOf4
  v4 := Tryd.zeroValue4
  t5 := Tryd.underlying5
  a5 := Tryd.isAgg5
  z5 := Tryd.sizeOf5
  v5 := Tryd.zeroValue5
  t9 := Tryd.underlying9
  a9 := Tryd.isAgg9
  z9 := Tryd.sizeOf9
  v9 := Tryd.zeroValue9
  t22 := Tryd.underlying61
  a22 := Tryd.isAgg61
  z22 := Tryd.sizeOf61
  v22 := Tryd.zeroValue61
  t25 := Tryd.underlying141
  a25 := Tryd.isAgg141
  z25 := Tryd.sizeOf141
  v25 := Tryd.zeroValue141
  t39 := Tryd.underlying128
  a39 := Tryd.isAgg128
  z39 := Tryd.sizeOf128
  v39 := Tryd.zeroValue128
  t45 := Tryd.underlying167
  a45 := Tryd.isAgg167
  z45 := Tryd.sizeOf167
  v45 := Tryd.zeroValue167
  t46 := Tryd.underlying168
  a46 := Tryd.isAgg168
  z46 := Tryd.sizeOf168
  v46 := Tryd.zeroValue168
  t50 := Tryd.underlying26
  a50 := Tryd.isAgg26
  z50 := Tryd.sizeOf26
  v50 := Tryd.zeroValue26
  t53 := Tryd.underlying148
  a53 := Tryd.isAgg148
  z53 := Tryd.sizeOf148
  v53 := Tryd.zeroValue148
  t55 := Tryd.underlying77
  a55 := Tryd.isAgg77
  z55 := Tryd.sizeOf77
  v55 := Tryd.zeroValue77
  t66 := Tryd.underlying179
  a66 := Tryd.isAgg179
  z66 := Tryd.sizeOf179
  v66 := Tryd.zeroValue179
  t70 := Tryd.underlying183
  a70 := Tryd.isAgg183
  z70 := Tryd.sizeOf183
  v70 := Tryd.zeroValue183
  t76 := Tryd.underlying187
  a76 := Tryd.isAgg187
  z76 := Tryd.sizeOf187
  v76 := Tryd.zeroValue187
  t77 := Tryd.underlying81
  a77 := Tryd.isAgg81
  z77 := Tryd.sizeOf81
  v77 := Tryd.zeroValue81 }
def cpRen : Ren := ⟨fun | 106 => 148 | 213 => 169 | 265 => 192 | n => n,
  fun | 3 => 3 | 9 => 9 | n => n, fun | n => n⟩
theorem cpLays : Lays.n106 Tryd.prog cpRen := {
  mixed := by kernel_rfl
  f106 := Tryd.func148.trans (congrArg some (by kernel_rfl))
  f213 := Tryd.func169.trans (congrArg some (by kernel_rfl))
  f265 := Tryd.func192.trans (congrArg some (by kernel_rfl))
  t3 := Tryd.underlying3
  a3 := Tryd.isAgg3
  z3 := Tryd.sizeOf3
  v3 := Tryd.zeroValue3
  t9 := Tryd.underlying9
  a9 := Tryd.isAgg9
  z9 := Tryd.sizeOf9
  v9 := Tryd.zeroValue9 }
end Go.Proofs.YthagpceagifjnaaDoor.L3
