/-
  The contracts of the library functions that the package calls, laid at this program (the plain text of the shelf's one command): of each no more than is called; no condition of my own.
  What the small functions of the package and of the reference answer: a digit's number, whether a rune or a byte is a separator or may stand in a line. No condition.
  What the package's reading of digits answers, at every text and base from 2 to 16: the digits' number modulo 2^64, and whether all are digits of the base. No condition on the text.
  What the package's Parse answers at every text: its number and its error. No condition on the text.
  What the package's Words and the reference's answer at every text: a row of the words, of the call's own memory; nothing that was there is changed.
  What the reference's Words answers at every text: a row of the same words.
  The comparison of two rows of texts: true for two rows of one list of texts that the call itself made.
  What the package's Lines answers at every text: a row of the lines, of the call's own memory, and the error.
  What the reference's Lines answers at every text: a row of the same lines, and the same error.
  What the reference's Dec and Hex answer at every number: its digits.
  What strconv.FormatUint answers at base 16: the number's digits of base 16. The table of math/bits is as its text lays it.
  What the package's Dec and Hex answer at every number, where the library's tables are as their texts lay them; and the examples of the chapter ('awake').
-/
import Derived.Shelf.Small.Wraps
import Derived.Shelf.LaysM
import Derived.Shelf.Strconv.Itoa4
import Derived.Shelf.Strings.Cut
import Derived.Shelf.Strings.Shaped
import Derived.Shelf.Strings.Prefix
import Derived.Shelf.Strings.Count
import Derived.Shelf.Strings.Repeat
import Derived.Shelf.Strings.OnBuilder
import Derived.Test.YtcnmnkgnaknpdaaGreatDoorProg
import Derived.Test.YtcnmnkgnaknpdaaGreatDoorRows
import Derived.Test.YtcnmnkgnaknpdaaGreatDoorGb
import Derived.WalkKit
import Derived.WalkSpells
import Derived.WalkLawsBesides
import Derived.BigQuiet
import Derived.Lib.Hide
import Derived.Lib.OthersKept
import Derived.Laws.RangeAny
import Derived.Maps.AppendAt
import Derived.Laws.OwnMore
import Derived.OwnWalk
import Derived.Laws.IdiomStrings
import Derived.Lib.AppendIntMem
import Derived.Lib.SmallJoins

/-! Shelf -/
namespace Go.Proofs
open Go.Shelf
def Tryz.lays156_ren : Go.Shelf.Ren := ⟨fun | 156 => 164 | 165 => 76 | 166 => 77 | 169 => 79 | 240 => 119 | 241 => 120 | 276 => 147 | 277 => 148 | n => n, fun | 31 => 38 | 9 => 9 | 3 => 3 | 4 => 4 | 0 => 0 | 20 => 20 | 72 => 143 | 76 => 147 | 70 => 141 | 37 => 47 | 75 => 146 | 127 => 190 | 164 => 206 | 5 => 5 | 80 => 150 | n => n, fun | n => n⟩
theorem Tryz.lays156 : Go.Proofs.Lays.n156 Tryz.prog Tryz.lays156_ren := {
  mixed := by kernel_rfl
  f156 := Tryz.func164.trans (congrArg some (by kernel_rfl))
  f165 := Tryz.func76.trans (congrArg some (by kernel_rfl))
  f166 := Tryz.func77.trans (congrArg some (by kernel_rfl))
  f169 := Tryz.func79.trans (congrArg some (by kernel_rfl))
  f240 := Tryz.func119.trans (congrArg some (by kernel_rfl))
  f241 := Tryz.func120.trans (congrArg some (by kernel_rfl))
  f276 := Tryz.func147.trans (congrArg some (by kernel_rfl))
  f277 := Tryz.func148.trans (congrArg some (by kernel_rfl))
  t0 := Tryz.underlying0
  a0 := Tryz.isAgg0
  z0 := Tryz.sizeOf0
  v0 := Tryz.zeroValue0
  t3 := Tryz.underlying3
  a3 := Tryz.isAgg3
  z3 := Tryz.sizeOf3
  v3 := Tryz.zeroValue3
  t4 := Tryz.underlying4
  a4 := Tryz.isAgg4
  z4 := Tryz.sizeOf4
  v4 := Tryz.zeroValue4
  t9 := Tryz.underlying9
  a9 := Tryz.isAgg9
  z9 := Tryz.sizeOf9
  v9 := Tryz.zeroValue9
  t20 := Tryz.underlying20
  a20 := Tryz.isAgg20
  z20 := Tryz.sizeOf20
  v20 := Tryz.zeroValue20
  t31 := Tryz.underlying38
  a31 := Tryz.isAgg38
  z31 := Tryz.sizeOf38
  v31 := Tryz.zeroValue38
  t37 := Tryz.underlying47
  a37 := Tryz.isAgg47
  z37 := Tryz.sizeOf47
  v37 := Tryz.zeroValue47
  t70 := Tryz.underlying141
  a70 := Tryz.isAgg141
  z70 := Tryz.sizeOf141
  v70 := Tryz.zeroValue141
  t72 := Tryz.underlying143
  a72 := Tryz.isAgg143
  z72 := Tryz.sizeOf143
  v72 := Tryz.zeroValue143
  t75 := Tryz.underlying146
  a75 := Tryz.isAgg146
  z75 := Tryz.sizeOf146
  v75 := Tryz.zeroValue146
  t76 := Tryz.underlying147
  a76 := Tryz.isAgg147
  z76 := Tryz.sizeOf147
  v76 := Tryz.zeroValue147
  t127 := Tryz.underlying190
  a127 := Tryz.isAgg190
  z127 := Tryz.sizeOf190
  v127 := Tryz.zeroValue190
  t164 := Tryz.underlying206
  a164 := Tryz.isAgg206
  z164 := Tryz.sizeOf206
  v164 := Tryz.zeroValue206 }
theorem Tryz.Builder_Extra_156 : Builder.Extra Tryz.prog Tryz.lays156_ren := {
  sizeBuilder := by kernel_rfl
  liesBuilder := by kernel_rfl
  t5 := Tryz.underlying5
  a5 := Tryz.isAgg5
  z5 := Tryz.sizeOf5
  v5 := Tryz.zeroValue5
  infoByte := by kernel_rfl
  cellsByte := by kernel_rfl
  sizeByte := by kernel_rfl
  neB5 := by decide }
open Go.RowKit in
theorem Tryz.strings_Join_none (a : Option Addr) (c : Nat) (sep : ByteArray) (w : World) :
    Calls Tryz.prog 164 #[.slice a 0 c, .string sep] w fun e w' => e = .returned (.string ⟨#[]⟩) ∧ w' = w := Any.strings_Join_none Tryz.lays156 Tryz.Builder_Extra_156 a c sep w
open Go.RowKit in
theorem Tryz.strings_Join (bk o c : Nat) (xs : List ByteArray) (sep : ByteArray) (w : World) (hcells : ∀ (j : Nat) x, xs[j]? = some x → w.cell? ⟨bk, o + j, none⟩ = some (.string x)) (hbk : bk < w.heap.size) (hN : xs.length ≤ 140737488355328) (hcap : xs.length ≤ c) (hlen : (Lib.join (xs.map (·.data.toList)) sep.data.toList).length ≤ 140737488355328) :
    Calls Tryz.prog 164 #[.slice (some ⟨bk, o, none⟩) xs.length c, .string sep] w fun e w' => e = .returned (.string ⟨(Lib.join (xs.map (·.data.toList)) sep.data.toList).toArray⟩) ∧ Below w.heap.size w w' := Any.strings_Join Tryz.lays156 Tryz.Builder_Extra_156 bk o c xs sep w hcells hbk hN hcap hlen
def Tryz.lays103_ren : Go.Shelf.Ren := ⟨fun | 103 => 154 | 210 => 172 | 206 => 118 | n => n, fun | 9 => 9 | 4 => 4 | 24 => 165 | 3 => 3 | n => n, fun | n => n⟩
theorem Tryz.lays103 : Go.Proofs.Lays.n103 Tryz.prog Tryz.lays103_ren := {
  mixed := by kernel_rfl
  f103 := Tryz.func154.trans (congrArg some (by kernel_rfl))
  f206 := Tryz.func118.trans (congrArg some (by kernel_rfl))
  f210 := Tryz.func172.trans (congrArg some (by kernel_rfl))
  t3 := Tryz.underlying3
  a3 := Tryz.isAgg3
  z3 := Tryz.sizeOf3
  v3 := Tryz.zeroValue3
  t4 := Tryz.underlying4
  a4 := Tryz.isAgg4
  z4 := Tryz.sizeOf4
  v4 := Tryz.zeroValue4
  t9 := Tryz.underlying9
  a9 := Tryz.isAgg9
  z9 := Tryz.sizeOf9
  v9 := Tryz.zeroValue9
  t24 := Tryz.underlying165
  a24 := Tryz.isAgg165
  z24 := Tryz.sizeOf165
  v24 := Tryz.zeroValue165 }
open Go.RowKit in
theorem Tryz.strings_CutPrefix (s p : ByteArray) (w : World) :
    Calls Tryz.prog 154 #[.string s, .string p] w fun e w' => e = .returned (.tuple #[.string ⟨(Lib.trimPrefix s.data.toList p.data.toList).toArray⟩, .bool (Lib.hasPrefix s.data.toList p.data.toList)]) ∧ w' = w := Any.strings_CutPrefix Tryz.lays103 s p w
def Tryz.lays104_ren : Go.Shelf.Ren := ⟨fun | 104 => 94 | 211 => 134 | 207 => 160 | n => n, fun | 9 => 9 | 4 => 4 | 24 => 165 | 3 => 3 | n => n, fun | n => n⟩
theorem Tryz.lays104 : Go.Proofs.Lays.n104 Tryz.prog Tryz.lays104_ren := {
  mixed := by kernel_rfl
  f104 := Tryz.func94.trans (congrArg some (by kernel_rfl))
  f207 := Tryz.func160.trans (congrArg some (by kernel_rfl))
  f211 := Tryz.func134.trans (congrArg some (by kernel_rfl))
  t3 := Tryz.underlying3
  a3 := Tryz.isAgg3
  z3 := Tryz.sizeOf3
  v3 := Tryz.zeroValue3
  t4 := Tryz.underlying4
  a4 := Tryz.isAgg4
  z4 := Tryz.sizeOf4
  v4 := Tryz.zeroValue4
  t9 := Tryz.underlying9
  a9 := Tryz.isAgg9
  z9 := Tryz.sizeOf9
  v9 := Tryz.zeroValue9
  t24 := Tryz.underlying165
  a24 := Tryz.isAgg165
  z24 := Tryz.sizeOf165
  v24 := Tryz.zeroValue165 }
open Go.RowKit in
theorem Tryz.strings_CutSuffix (s p : ByteArray) (w : World) (hs : s.size ≤ 9223372036854775807) :
    Calls Tryz.prog 94 #[.string s, .string p] w fun e w' => e = .returned (.tuple #[.string ⟨(Lib.trimSuffix s.data.toList p.data.toList).toArray⟩, .bool (Lib.hasSuffix s.data.toList p.data.toList)]) ∧ w' = w := Any.strings_CutSuffix Tryz.lays104 s p w hs
def Tryz.laysM173_ren : Go.Shelf.Ren := ⟨fun | 173 => 42 | 246 => 72 | 283 => 112 | 284 => 113 | 285 => 114 | 286 => 115 | 129 => 143 | 317 => 142 | 318 => 144 | 319 => 145 | 320 => 146 | 337 => 168 | 338 => 169 | n => n, fun | 2 => 2 | 3 => 3 | 9 => 9 | 4 => 4 | 171 => 181 | 0 => 0 | 53 => 54 | 37 => 47 | 5 => 5 | 173 => 184 | 212 => 203 | 51 => 23 | 20 => 20 | 213 => 204 | 46 => 137 | 232 => 224 | 233 => 225 | n => n, fun | 17 => 2 | 18 => 3 | 19 => 4 | n => n⟩
theorem Tryz.laysM173 : Go.Proofs.LaysM.n173 Tryz.prog Tryz.laysM173_ren := {
  mixed := by kernel_rfl
  f129 := Tryz.func143.trans (congrArg some (by kernel_rfl))
  f173 := Tryz.func42.trans (congrArg some (by kernel_rfl))
  f246 := Tryz.func72.trans (congrArg some (by kernel_rfl))
  f283 := Tryz.func112.trans (congrArg some (by kernel_rfl))
  f284 := Tryz.func113.trans (congrArg some (by kernel_rfl))
  f285 := Tryz.func114.trans (congrArg some (by kernel_rfl))
  f286 := Tryz.func115.trans (congrArg some (by kernel_rfl))
  f317 := Tryz.func142.trans (congrArg some (by kernel_rfl))
  f318 := Tryz.func144.trans (congrArg some (by kernel_rfl))
  f319 := Tryz.func145.trans (congrArg some (by kernel_rfl))
  f320 := Tryz.func146.trans (congrArg some (by kernel_rfl))
  f337 := Tryz.func168.trans (congrArg some (by kernel_rfl))
  f338 := Tryz.func169.trans (congrArg some (by kernel_rfl))
  t0 := Tryz.underlying0
  a0 := Tryz.isAgg0
  z0 := Tryz.sizeOf0
  v0 := Tryz.zeroValue0
  t2 := Tryz.underlying2
  a2 := Tryz.isAgg2
  z2 := Tryz.sizeOf2
  v2 := Tryz.zeroValue2
  t3 := Tryz.underlying3
  a3 := Tryz.isAgg3
  z3 := Tryz.sizeOf3
  v3 := Tryz.zeroValue3
  t4 := Tryz.underlying4
  a4 := Tryz.isAgg4
  z4 := Tryz.sizeOf4
  v4 := Tryz.zeroValue4
  t5 := Tryz.underlying5
  a5 := Tryz.isAgg5
  z5 := Tryz.sizeOf5
  v5 := Tryz.zeroValue5
  t9 := Tryz.underlying9
  a9 := Tryz.isAgg9
  z9 := Tryz.sizeOf9
  v9 := Tryz.zeroValue9
  t20 := Tryz.underlying20
  a20 := Tryz.isAgg20
  z20 := Tryz.sizeOf20
  v20 := Tryz.zeroValue20
  t37 := Tryz.underlying47
  a37 := Tryz.isAgg47
  z37 := Tryz.sizeOf47
  v37 := Tryz.zeroValue47
  t46 := Tryz.underlying137
  a46 := Tryz.isAgg137
  z46 := Tryz.sizeOf137
  v46 := Tryz.zeroValue137
  t51 := Tryz.underlying23
  a51 := Tryz.isAgg23
  z51 := Tryz.sizeOf23
  v51 := Tryz.zeroValue23
  t53 := Tryz.underlying54
  a53 := Tryz.isAgg54
  z53 := Tryz.sizeOf54
  v53 := Tryz.zeroValue54
  t171 := Tryz.underlying181
  a171 := Tryz.isAgg181
  z171 := Tryz.sizeOf181
  v171 := Tryz.zeroValue181
  t173 := Tryz.underlying184
  a173 := Tryz.isAgg184
  z173 := Tryz.sizeOf184
  v173 := Tryz.zeroValue184
  t212 := Tryz.underlying203
  a212 := Tryz.isAgg203
  z212 := Tryz.sizeOf203
  v212 := Tryz.zeroValue203
  t213 := Tryz.underlying204
  a213 := Tryz.isAgg204
  z213 := Tryz.sizeOf204
  t232 := Tryz.underlying224
  a232 := Tryz.isAgg224
  z232 := Tryz.sizeOf224
  v232 := Tryz.zeroValue224
  t233 := Tryz.underlying225
  a233 := Tryz.isAgg225
  z233 := Tryz.sizeOf225
  v233 := Tryz.zeroValue225
  g17 := by kernel_rfl
  g18 := by kernel_rfl
  g19 := by kernel_rfl
  i0 := by kernel_rfl
  i2 := by kernel_rfl
  i3 := by kernel_rfl
  i4 := by kernel_rfl
  i5 := by kernel_rfl
  i9 := by kernel_rfl
  i20 := by kernel_rfl
  i37 := by kernel_rfl
  i46 := by kernel_rfl
  i51 := by kernel_rfl
  i53 := by kernel_rfl
  i171 := by kernel_rfl
  i173 := by kernel_rfl
  i212 := by kernel_rfl
  i232 := by kernel_rfl
  i233 := by kernel_rfl
  m17 := by kernel_rfl
  m18 := by kernel_rfl
  m19 := by kernel_rfl }
open Go.RowKit Go.Sort Go.Lib in
theorem Tryz.strconv_FormatInt_10 (n : Int) (h0 : -9223372036854775808 ≤ n) (h1 : n ≤ 9223372036854775807) (w : World) (htab : Lib.TabIs Tryz.prog w "internal/strconv.uint64pow10" .u64 Lib.pow10Tab) :
    Calls Tryz.prog 42 #[.int .i64 n, .int .i64 10] w fun e w' => e = .returned (.string ⟨(Lib.itoa n).toArray⟩) ∧ ∃ k os, w' = grow (w.drewN k) os := Any.strconv_FormatInt_10 Tryz.laysM173 n h0 h1 w htab
def Tryz.lays145_ren : Go.Shelf.Ren := ⟨fun | 145 => 92 | 220 => 132 | 219 => 125 | 217 => 150 | 225 => 151 | 224 => 152 | 267 => 153 | 266 => 170 | 314 => 171 | n => n, fun | 9 => 9 | 4 => 4 | 59 => 163 | 3 => 3 | 5 => 5 | 46 => 137 | 146 => 186 | 51 => 23 | n => n, fun | 1 => 1 | n => n⟩
theorem Tryz.lays145 : Go.Proofs.Lays.n145 Tryz.prog Tryz.lays145_ren := {
  mixed := by kernel_rfl
  f145 := Tryz.func92.trans (congrArg some (by kernel_rfl))
  f217 := Tryz.func150.trans (congrArg some (by kernel_rfl))
  f219 := Tryz.func125.trans (congrArg some (by kernel_rfl))
  f220 := Tryz.func132.trans (congrArg some (by kernel_rfl))
  f224 := Tryz.func152.trans (congrArg some (by kernel_rfl))
  f225 := Tryz.func151.trans (congrArg some (by kernel_rfl))
  f266 := Tryz.func170.trans (congrArg some (by kernel_rfl))
  f267 := Tryz.func153.trans (congrArg some (by kernel_rfl))
  f314 := Tryz.func171.trans (congrArg some (by kernel_rfl))
  t3 := Tryz.underlying3
  a3 := Tryz.isAgg3
  z3 := Tryz.sizeOf3
  v3 := Tryz.zeroValue3
  t4 := Tryz.underlying4
  a4 := Tryz.isAgg4
  z4 := Tryz.sizeOf4
  v4 := Tryz.zeroValue4
  t5 := Tryz.underlying5
  a5 := Tryz.isAgg5
  z5 := Tryz.sizeOf5
  v5 := Tryz.zeroValue5
  t9 := Tryz.underlying9
  a9 := Tryz.isAgg9
  z9 := Tryz.sizeOf9
  v9 := Tryz.zeroValue9
  t46 := Tryz.underlying137
  a46 := Tryz.isAgg137
  z46 := Tryz.sizeOf137
  v46 := Tryz.zeroValue137
  t51 := Tryz.underlying23
  a51 := Tryz.isAgg23
  z51 := Tryz.sizeOf23
  v51 := Tryz.zeroValue23
  t59 := Tryz.underlying163
  a59 := Tryz.isAgg163
  z59 := Tryz.sizeOf163
  v59 := Tryz.zeroValue163
  t146 := Tryz.underlying186
  a146 := Tryz.isAgg186
  z146 := Tryz.sizeOf186
  v146 := Tryz.zeroValue186
  g1 := by kernel_rfl }
open Go.RowKit Go.Lib in
theorem Tryz.strings_Cut (s sep : ByteArray) (m : Int) (w : World) (hs : s.size < 4294967281) (hm : w.cell? ⟨1, 0, none⟩ = some (.int .i64 m)) :
    Calls Tryz.prog 92 #[.string s, .string sep] w fun e w' => e = .returned (.tuple #[.string ⟨(Lib.cut s.data.toList sep.data.toList).1.toArray⟩, .string ⟨(Lib.cut s.data.toList sep.data.toList).2.1.toArray⟩, .bool (Lib.cut s.data.toList sep.data.toList).2.2]) ∧ ∃ n, w' = w.drewN n := Any.strings_Cut Tryz.lays145 s sep m w hs hm
def Tryz.lays138_ren : Go.Shelf.Ren := ⟨fun | 138 => 46 | 195 => 81 | 218 => 82 | 143 => 83 | 219 => 125 | 217 => 150 | 225 => 151 | 224 => 152 | 267 => 153 | 266 => 170 | 314 => 171 | n => n, fun | 9 => 9 | 3 => 3 | 4 => 4 | 5 => 5 | 0 => 0 | 46 => 137 | 146 => 186 | 51 => 23 | n => n, fun | 1 => 1 | n => n⟩
theorem Tryz.lays138 : Go.Proofs.Lays.n138 Tryz.prog Tryz.lays138_ren := {
  mixed := by kernel_rfl
  f138 := Tryz.func46.trans (congrArg some (by kernel_rfl))
  f143 := Tryz.func83.trans (congrArg some (by kernel_rfl))
  f195 := Tryz.func81.trans (congrArg some (by kernel_rfl))
  f217 := Tryz.func150.trans (congrArg some (by kernel_rfl))
  f218 := Tryz.func82.trans (congrArg some (by kernel_rfl))
  f219 := Tryz.func125.trans (congrArg some (by kernel_rfl))
  f224 := Tryz.func152.trans (congrArg some (by kernel_rfl))
  f225 := Tryz.func151.trans (congrArg some (by kernel_rfl))
  f266 := Tryz.func170.trans (congrArg some (by kernel_rfl))
  f267 := Tryz.func153.trans (congrArg some (by kernel_rfl))
  f314 := Tryz.func171.trans (congrArg some (by kernel_rfl))
  t0 := Tryz.underlying0
  a0 := Tryz.isAgg0
  z0 := Tryz.sizeOf0
  v0 := Tryz.zeroValue0
  t3 := Tryz.underlying3
  a3 := Tryz.isAgg3
  z3 := Tryz.sizeOf3
  v3 := Tryz.zeroValue3
  t4 := Tryz.underlying4
  a4 := Tryz.isAgg4
  z4 := Tryz.sizeOf4
  v4 := Tryz.zeroValue4
  t5 := Tryz.underlying5
  a5 := Tryz.isAgg5
  z5 := Tryz.sizeOf5
  v5 := Tryz.zeroValue5
  t9 := Tryz.underlying9
  a9 := Tryz.isAgg9
  z9 := Tryz.sizeOf9
  v9 := Tryz.zeroValue9
  t46 := Tryz.underlying137
  a46 := Tryz.isAgg137
  z46 := Tryz.sizeOf137
  v46 := Tryz.zeroValue137
  t51 := Tryz.underlying23
  a51 := Tryz.isAgg23
  z51 := Tryz.sizeOf23
  v51 := Tryz.zeroValue23
  t146 := Tryz.underlying186
  a146 := Tryz.isAgg186
  z146 := Tryz.sizeOf186
  v146 := Tryz.zeroValue186
  g1 := by kernel_rfl }
open Go.RowKit Go.Lib in
theorem Tryz.strings_Count_one (s : ByteArray) (c : UInt8) (w : World) :
    Calls Tryz.prog 46 #[.string s, .string ⟨#[c]⟩] w fun e w' => e = .returned (.int .i64 (Lib.countByte s.data.toList c)) ∧ w' = w := Any.strings_Count_one Tryz.lays138 s c w
def Tryz.laysM145_ren : Go.Shelf.Ren := ⟨fun | 145 => 92 | 220 => 132 | 219 => 125 | 217 => 150 | 225 => 151 | 224 => 152 | 267 => 153 | 266 => 170 | 314 => 171 | n => n, fun | 9 => 9 | 4 => 4 | 59 => 163 | 3 => 3 | 5 => 5 | 46 => 137 | 146 => 186 | 51 => 23 | n => n, fun | 1 => 1 | n => n⟩
theorem Tryz.laysM145 : Go.Proofs.LaysM.n145 Tryz.prog Tryz.laysM145_ren := {
  mixed := by kernel_rfl
  f145 := Tryz.func92.trans (congrArg some (by kernel_rfl))
  f217 := Tryz.func150.trans (congrArg some (by kernel_rfl))
  f219 := Tryz.func125.trans (congrArg some (by kernel_rfl))
  f220 := Tryz.func132.trans (congrArg some (by kernel_rfl))
  f224 := Tryz.func152.trans (congrArg some (by kernel_rfl))
  f225 := Tryz.func151.trans (congrArg some (by kernel_rfl))
  f266 := Tryz.func170.trans (congrArg some (by kernel_rfl))
  f267 := Tryz.func153.trans (congrArg some (by kernel_rfl))
  f314 := Tryz.func171.trans (congrArg some (by kernel_rfl))
  t3 := Tryz.underlying3
  a3 := Tryz.isAgg3
  z3 := Tryz.sizeOf3
  v3 := Tryz.zeroValue3
  t4 := Tryz.underlying4
  a4 := Tryz.isAgg4
  z4 := Tryz.sizeOf4
  v4 := Tryz.zeroValue4
  t5 := Tryz.underlying5
  a5 := Tryz.isAgg5
  z5 := Tryz.sizeOf5
  v5 := Tryz.zeroValue5
  t9 := Tryz.underlying9
  a9 := Tryz.isAgg9
  z9 := Tryz.sizeOf9
  v9 := Tryz.zeroValue9
  t46 := Tryz.underlying137
  a46 := Tryz.isAgg137
  z46 := Tryz.sizeOf137
  v46 := Tryz.zeroValue137
  t51 := Tryz.underlying23
  a51 := Tryz.isAgg23
  z51 := Tryz.sizeOf23
  v51 := Tryz.zeroValue23
  t59 := Tryz.underlying163
  a59 := Tryz.isAgg163
  z59 := Tryz.sizeOf163
  v59 := Tryz.zeroValue163
  t146 := Tryz.underlying186
  a146 := Tryz.isAgg186
  z146 := Tryz.sizeOf186
  v146 := Tryz.zeroValue186
  g1 := by kernel_rfl
  i3 := by kernel_rfl
  i4 := by kernel_rfl
  i5 := by kernel_rfl
  i9 := by kernel_rfl
  i46 := by kernel_rfl
  i51 := by kernel_rfl
  i59 := by kernel_rfl
  i146 := by kernel_rfl
  m1 := by kernel_rfl
  s1_3 := fun w h => Go.Proofs.cell_of_shapedOpen_int (zero := #[.int .i64 0]) (t := 3) h (of_decide_eq_true (by kernel_rfl)) (by kernel_rfl) rfl (by kernel_rfl) (by kernel_rfl) Tryz.underlying3 }
open Go.RowKit Go.Lib in
theorem Tryz.strings_Cut_shaped (s sep : ByteArray) (w : World) (h : w.ShapedOpen Tryz.prog) (hs : s.size < 4294967281) :
    Calls Tryz.prog 92 #[.string s, .string sep] w fun e w' => e = .returned (.tuple #[.string ⟨(Lib.cut s.data.toList sep.data.toList).1.toArray⟩, .string ⟨(Lib.cut s.data.toList sep.data.toList).2.1.toArray⟩, .bool (Lib.cut s.data.toList sep.data.toList).2.2]) ∧ ∃ n, w' = w.drewN n := Any.strings_Cut_shaped Tryz.laysM145 s sep w h hs
def Tryz.lays99_ren : Go.Shelf.Ren := ⟨fun | 99 => 75 | 206 => 118 | n => n, fun | 9 => 9 | 4 => 4 | 3 => 3 | n => n, fun | n => n⟩
theorem Tryz.lays99 : Go.Proofs.Lays.n99 Tryz.prog Tryz.lays99_ren := {
  mixed := by kernel_rfl
  f99 := Tryz.func75.trans (congrArg some (by kernel_rfl))
  f206 := Tryz.func118.trans (congrArg some (by kernel_rfl))
  t3 := Tryz.underlying3
  a3 := Tryz.isAgg3
  z3 := Tryz.sizeOf3
  v3 := Tryz.zeroValue3
  t4 := Tryz.underlying4
  a4 := Tryz.isAgg4
  z4 := Tryz.sizeOf4
  v4 := Tryz.zeroValue4
  t9 := Tryz.underlying9
  a9 := Tryz.isAgg9
  z9 := Tryz.sizeOf9
  v9 := Tryz.zeroValue9 }
open Go.RowKit Go.Lib in
theorem Tryz.strings_HasPrefix (s p : ByteArray) (w : World) :
    Calls Tryz.prog 75 #[.string s, .string p] w fun e w' => e = .returned (.bool (Lib.hasPrefix s.data.toList p.data.toList)) ∧ w' = w := Any.strings_HasPrefix Tryz.lays99 s p w
def Tryz.lays101_ren : Go.Shelf.Ren := ⟨fun | 101 => 183 | 208 => 184 | 206 => 118 | n => n, fun | 9 => 9 | 4 => 4 | 3 => 3 | n => n, fun | n => n⟩
theorem Tryz.lays101 : Go.Proofs.Lays.n101 Tryz.prog Tryz.lays101_ren := {
  mixed := by kernel_rfl
  f101 := Tryz.func183.trans (congrArg some (by kernel_rfl))
  f206 := Tryz.func118.trans (congrArg some (by kernel_rfl))
  f208 := Tryz.func184.trans (congrArg some (by kernel_rfl))
  t3 := Tryz.underlying3
  a3 := Tryz.isAgg3
  z3 := Tryz.sizeOf3
  v3 := Tryz.zeroValue3
  t4 := Tryz.underlying4
  a4 := Tryz.isAgg4
  z4 := Tryz.sizeOf4
  v4 := Tryz.zeroValue4
  t9 := Tryz.underlying9
  a9 := Tryz.isAgg9
  z9 := Tryz.sizeOf9
  v9 := Tryz.zeroValue9 }
open Go.RowKit Go.Lib in
theorem Tryz.strings_TrimPrefix (s p : ByteArray) (w : World) :
    Calls Tryz.prog 183 #[.string s, .string p] w fun e w' => e = .returned (.string ⟨(Lib.trimPrefix s.data.toList p.data.toList).toArray⟩) ∧ w' = w := Any.strings_TrimPrefix Tryz.lays101 s p w
def Tryz.lays105_ren : Go.Shelf.Ren := ⟨fun | 105 => 44 | 212 => 74 | 99 => 75 | 165 => 76 | 166 => 77 | 170 => 78 | 169 => 79 | 263 => 116 | 264 => 117 | 206 => 118 | 240 => 119 | 241 => 120 | 276 => 147 | 277 => 148 | n => n, fun | 9 => 9 | 3 => 3 | 4 => 4 | 20 => 20 | 0 => 0 | 46 => 137 | 109 => 138 | 5 => 5 | 72 => 143 | 76 => 147 | 51 => 23 | 146 => 186 | 53 => 54 | 148 => 188 | 70 => 141 | 37 => 47 | 75 => 146 | 127 => 190 | 164 => 206 | 80 => 150 | n => n, fun | n => n⟩
theorem Tryz.lays105 : Go.Proofs.Lays.n105 Tryz.prog Tryz.lays105_ren := {
  mixed := by kernel_rfl
  f99 := Tryz.func75.trans (congrArg some (by kernel_rfl))
  f105 := Tryz.func44.trans (congrArg some (by kernel_rfl))
  f165 := Tryz.func76.trans (congrArg some (by kernel_rfl))
  f166 := Tryz.func77.trans (congrArg some (by kernel_rfl))
  f169 := Tryz.func79.trans (congrArg some (by kernel_rfl))
  f170 := Tryz.func78.trans (congrArg some (by kernel_rfl))
  f206 := Tryz.func118.trans (congrArg some (by kernel_rfl))
  f212 := Tryz.func74.trans (congrArg some (by kernel_rfl))
  f240 := Tryz.func119.trans (congrArg some (by kernel_rfl))
  f241 := Tryz.func120.trans (congrArg some (by kernel_rfl))
  f263 := Tryz.func116.trans (congrArg some (by kernel_rfl))
  f264 := Tryz.func117.trans (congrArg some (by kernel_rfl))
  f276 := Tryz.func147.trans (congrArg some (by kernel_rfl))
  f277 := Tryz.func148.trans (congrArg some (by kernel_rfl))
  t0 := Tryz.underlying0
  a0 := Tryz.isAgg0
  z0 := Tryz.sizeOf0
  v0 := Tryz.zeroValue0
  t3 := Tryz.underlying3
  a3 := Tryz.isAgg3
  z3 := Tryz.sizeOf3
  v3 := Tryz.zeroValue3
  t4 := Tryz.underlying4
  a4 := Tryz.isAgg4
  z4 := Tryz.sizeOf4
  v4 := Tryz.zeroValue4
  t5 := Tryz.underlying5
  a5 := Tryz.isAgg5
  z5 := Tryz.sizeOf5
  v5 := Tryz.zeroValue5
  t9 := Tryz.underlying9
  a9 := Tryz.isAgg9
  z9 := Tryz.sizeOf9
  v9 := Tryz.zeroValue9
  t20 := Tryz.underlying20
  a20 := Tryz.isAgg20
  z20 := Tryz.sizeOf20
  v20 := Tryz.zeroValue20
  t37 := Tryz.underlying47
  a37 := Tryz.isAgg47
  z37 := Tryz.sizeOf47
  v37 := Tryz.zeroValue47
  t46 := Tryz.underlying137
  a46 := Tryz.isAgg137
  z46 := Tryz.sizeOf137
  v46 := Tryz.zeroValue137
  t51 := Tryz.underlying23
  a51 := Tryz.isAgg23
  z51 := Tryz.sizeOf23
  v51 := Tryz.zeroValue23
  t53 := Tryz.underlying54
  a53 := Tryz.isAgg54
  z53 := Tryz.sizeOf54
  v53 := Tryz.zeroValue54
  t70 := Tryz.underlying141
  a70 := Tryz.isAgg141
  z70 := Tryz.sizeOf141
  v70 := Tryz.zeroValue141
  t72 := Tryz.underlying143
  a72 := Tryz.isAgg143
  z72 := Tryz.sizeOf143
  v72 := Tryz.zeroValue143
  t75 := Tryz.underlying146
  a75 := Tryz.isAgg146
  z75 := Tryz.sizeOf146
  v75 := Tryz.zeroValue146
  t76 := Tryz.underlying147
  a76 := Tryz.isAgg147
  z76 := Tryz.sizeOf147
  v76 := Tryz.zeroValue147
  t109 := Tryz.underlying138
  a109 := Tryz.isAgg138
  z109 := Tryz.sizeOf138
  v109 := Tryz.zeroValue138
  t127 := Tryz.underlying190
  a127 := Tryz.isAgg190
  z127 := Tryz.sizeOf190
  v127 := Tryz.zeroValue190
  t146 := Tryz.underlying186
  a146 := Tryz.isAgg186
  z146 := Tryz.sizeOf186
  v146 := Tryz.zeroValue186
  t148 := Tryz.underlying188
  a148 := Tryz.isAgg188
  z148 := Tryz.sizeOf188
  v148 := Tryz.zeroValue188
  t164 := Tryz.underlying206
  a164 := Tryz.isAgg206
  z164 := Tryz.sizeOf206
  v164 := Tryz.zeroValue206 }
theorem Tryz.Builder_Extra_105 : Builder.Extra Tryz.prog Tryz.lays105_ren := {
  sizeBuilder := by kernel_rfl
  liesBuilder := by kernel_rfl
  t5 := Tryz.underlying5
  a5 := Tryz.isAgg5
  z5 := Tryz.sizeOf5
  v5 := Tryz.zeroValue5
  infoByte := by kernel_rfl
  cellsByte := by kernel_rfl
  sizeByte := by kernel_rfl
  neB5 := by decide }
open Go.RowKit Go.Lib in
theorem Tryz.strings_Repeat (s : ByteArray) (c : Nat) (w : World) (hc : c ≤ 9223372036854775807) (hlen : s.size * c ≤ 140737488355328) :
    Calls Tryz.prog 44 #[.string s, .int .i64 c] w fun e w' => e = .returned (.string ⟨(Lib.repeatL s.data.toList c).toArray⟩) ∧ Below w.heap.size w w' := Any.strings_Repeat Tryz.lays105 Tryz.Builder_Extra_105 s c w hc hlen
end Go.Proofs
/-! S02WalkA -/
namespace Go.Proofs.YtcnmnkgnaknpdaaGreatDoor.S02
open Go.RowKit
theorem ret_int {k : IntKind} {a b : Int} (h : a = b) : Ending.returned (.int k a) = .returned (.int k b) := by rw [h]
theorem ret_bool {a b : Bool} (h : a = b) : Ending.returned (.bool a) = .returned (.bool b) := by rw [h]
theorem digit_any (r : Int) (w : World) (h0 : -2147483648 ≤ r) (h1 : r ≤ 2147483647) :
    Calls Tryz.prog 178 #[.int .i32 r] w fun e w' => e = .returned (.int .u64 (NM.rd r)) ∧ w = w' := by
  by_cases a : 48 ≤ r ∧ r ≤ 57
  · obtain ⟨a1, a2⟩ := a
    go_enter Tryz.func178, Tryz.ntmps178
    go_wp2
    go_ret
    exact ⟨ret_int (by unfold NM.rd; rw [if_pos ⟨a1, a2⟩]), rfl⟩
  · by_cases b : 97 ≤ r ∧ r ≤ 102
    · obtain ⟨b1, b2⟩ := b
      go_enter Tryz.func178, Tryz.ntmps178
      go_wp2
      go_ret
      exact ⟨ret_int (by unfold NM.rd; rw [if_neg a, if_pos ⟨b1, b2⟩]; omega), rfl⟩
    · go_enter Tryz.func178, Tryz.ntmps178
      go_wp2
      all_goals
        go_ret
        first
          | exact ⟨ret_int (by unfold NM.rd; rw [if_neg a, if_neg b]), rfl⟩
          | (exfalso; omega)
theorem separates_any (r : Int) (w : World) :
    Calls Tryz.prog 133 #[.int .i32 r] w fun e w' => e = .returned (.bool (NM.sepR r)) ∧ w = w' := by
  go_enter Tryz.func133, Tryz.ntmps133
  go_wp2
  all_goals
    go_ret
    refine ⟨ret_bool ?_, rfl⟩
    simp [NM.sepR, *]
theorem printable_any (r : Int) (w : World) :
    Calls Tryz.prog 47 #[.int .i32 r] w fun e w' => e = .returned (.bool (NM.prR r)) ∧ w = w' := by
  go_enter Tryz.func47, Tryz.ntmps47
  go_wp2
  all_goals
    go_ret
    refine ⟨ret_bool ?_, rfl⟩
    rw [Bool.eq_iff_iff]
    simp [NM.prR, *]
    try omega
theorem between_any (c : UInt8) (w : World) :
    Calls Tryz.prog 98 #[.int .u8 c.toNat] w fun e w' => e = .returned (.bool (NM.sepB c)) ∧ w = w' := by
  go_enter Tryz.func98, Tryz.ntmps98
  go_wp2
  all_goals
    go_ret
    refine ⟨ret_bool ?_, rfl⟩
    simp [NM.sepB, NM.sepR, *]
theorem rvalue_any (c : UInt8) (w : World) :
    Calls Tryz.prog 177 #[.int .u8 c.toNat] w fun e w' => e = .returned (.int .i64 (NM.rvl c)) ∧ w = w' := by
  have hc : c.toNat < 256 := c.toNat_lt
  by_cases a : 48 ≤ (c.toNat : Int) ∧ (c.toNat : Int) ≤ 57
  · obtain ⟨a1, a2⟩ := a
    go_enter Tryz.func177, Tryz.ntmps177
    go_wp2
    go_ret
    exact ⟨ret_int (NM.rvl_a c ⟨a1, a2⟩).symm, rfl⟩
  · by_cases b : 97 ≤ (c.toNat : Int) ∧ (c.toNat : Int) ≤ 102
    · obtain ⟨b1, b2⟩ := b
      have a3 : 57 < (c.toNat : Int) := by omega
      go_enter Tryz.func177, Tryz.ntmps177
      go_wp2
      go_ret
      exact ⟨ret_int (NM.rvl_b c ⟨b1, b2⟩).symm, rfl⟩
    · go_enter Tryz.func177, Tryz.ntmps177
      go_wp2
      all_goals
        go_ret
        first
          | exact ⟨ret_int (NM.rvl_c c a b).symm, rfl⟩
          | (exfalso; omega)
theorem rdigit_any (d : Int) (w : World) (h0 : 0 ≤ d) (h1 : d < 16) :
    Calls Tryz.prog 60 #[.int .u32 d] w fun e w' => e = .returned (.int .u8 (NM.hx d.toNat).toNat) ∧ w = w' := by
  by_cases a : d < 10
  · go_enter Tryz.func60, Tryz.ntmps60
    go_wp2
    go_ret
    exact ⟨ret_int (by rw [NM.hx_lo _ (by omega)]; omega), rfl⟩
  · go_enter Tryz.func60, Tryz.ntmps60
    go_wp2
    go_ret
    exact ⟨ret_int (by rw [NM.hx_hi _ (by omega) (by omega)]; omega), rfl⟩
theorem pow2_16 (w : World) : Calls Tryz.prog 145 #[.int .i64 16] w fun e w' => e = .returned (.bool true) ∧ w = w' := by
  go_enter Tryz.func145, Tryz.ntmps145
  go_wp2
  go_ret
  exact ⟨rfl, rfl⟩
end Go.Proofs.YtcnmnkgnaknpdaaGreatDoor.S02
/-! S02WalkB -/
namespace Go.Proofs.YtcnmnkgnaknpdaaGreatDoor.S02
open Go.RowKit
theorem ret_pair {k : IntKind} {a b : Int} {c d : Bool} (h : a = b) (h' : c = d) : Ending.returned (.tuple #[.int k a, .bool c]) = .returned (.tuple #[.int k b, .bool d]) := by rw [h, h']
/-- What is kept of the text's iterator. -/
def It (w wr : World) (s : ByteArray) (pos : Nat) : Prop := wr.heap[w.heap.size]? = some (.stringIter s pos) ∧ Below w.heap.size w wr
theorem It.start (w : World) (s : ByteArray) : It w (w.iter s 0) s 0 := ⟨World.iter_heap w s 0, (Below.refl _ w).alloc (Nat.le_refl _) _⟩
theorem It.on {w wr : World} {s : ByteArray} {pos : Nat} (h : It w wr s pos) (n : Nat) : It w (wr.iterAt w.heap.size s n) s n :=
  ⟨Lib.iterAt_heap wr w.heap.size s pos n h.1, Lib.below_iterAt h.2 (Nat.le_refl _) s n⟩
set_option maxHeartbeats 1600000 in
theorem value_any (s : ByteArray) (b : Nat) (w : World) (hb : 2 ≤ b) (hb16 : b ≤ 16) (hs : s.size ≤ 9223372036854775807) :
    Calls Tryz.prog 173 #[.string s, .int .u64 b] w fun e w' => e = .returned (.tuple #[.int .u64 (NM.vN b s.data.toList), .bool (NM.vB b s.data.toList)]) ∧ Below w.heap.size w w' := by
  go_enter Tryz.func173, Tryz.ntmps173
  go_wp2
  go_loopw [6] (fun n wr => ∃ pos v : Nat, pos ≤ s.size ∧ Hid (NM.al b (s.data.toList.take pos) = true) ∧ Hid (v = NM.val b (s.data.toList.take pos)) ∧ n = .int .u64 (v % 18446744073709551616 : Nat) ∧ Hid (It w wr s pos)) (fun _ wr => s.size - wr.iterPos w.heap.size)
  case atStart =>
    exact ⟨0, 0, by omega, rfl, rfl, rfl, It.start w s⟩
  case round =>
    obtain ⟨pos, v, hp, hal, hv, rfl, hit⟩ := hrel
    by_cases hlt : pos < s.size
    · have hnx : ∀ ty, (Instr.next (.pointer (some ⟨w.heap.size, 0, none⟩)) true ty).run Tryz.prog wr = _ := fun ty => Lib.run_next_any_at wr w.heap.size s pos ty hit.out.1 hlt
      obtain ⟨hd, hw1⟩ := NM.dec_dv s pos hlt
      have hr := decode_le s pos
      have hdl := NM.dv_le s[pos]
      have HD := Lib.hid hd
      have HW := Lib.hid hw1
      clear hd hw1
      by_cases hok : NM.dv s[pos] < b
      · have hok' : decide (b ≤ NM.dv s[pos]) = false := by simp; omega
        go_wp2_with (go_at_call 178; refine (digit_any _ _ (by omega) (by omega)).mono ?_; rw [HD.out]; rintro e w' ⟨rfl, rfl⟩)
        go_roundw
        case rel =>
          have e1 := HW.out (by omega)
          refine ⟨pos + 1, v * b + NM.dv s[pos], by omega, ?_, ?_, ?_, ?_⟩
          · exact Lib.hid (by rw [NM.take_snoc s pos hlt, NM.al_snoc, hal.out]; simpa using hok)
          · exact Lib.hid (by rw [NM.take_snoc s pos hlt, NM.val_snoc, hv.out])
          · rw [NM.step_mod2]
          · rw [e1]; exact Lib.hid (hit.out.on (pos + 1))
        case measure =>
          have e1 := HW.out (by omega)
          rw [e1]
          simp only [World.iterPos, (hit.out.on (pos + 1)).1, hit.out.1]
          omega
      · have hok' : decide (b ≤ NM.dv s[pos]) = true := by simp; omega
        have hbad := NM.al_bad b s pos hlt (by omega)
        have HB := Lib.hid hbad
        clear hbad
        go_wp2_with (go_at_call 178; refine (digit_any _ _ (by omega) (by omega)).mono ?_; rw [HD.out]; rintro e w' ⟨rfl, rfl⟩)
        go_ret2
        refine ⟨ret_pair (by rw [NM.vN_no _ _ HB.out]; rfl) (NM.vB_no _ _ HB.out).symm, (hit.out.on _).2⟩
    · have hnx : ∀ ty, (Instr.next (.pointer (some ⟨w.heap.size, 0, none⟩)) true ty).run Tryz.prog wr = _ := fun ty => Lib.run_next_end_at wr w.heap.size s pos ty hit.out.1 hlt
      have hall := hal.out
      have hv' := hv.out
      rw [NM.take_all s pos (by omega)] at hall hv'
      have HA := Lib.hid hall
      have HV := Lib.hid hv'
      clear hall hv'
      go_wp2
      go_ret2
      refine ⟨ret_pair (by rw [NM.vN_yes _ _ HA.out, HV.out]) ?_, hit.out.2⟩
      rw [ByteArray.toList_eq]
      unfold NM.vB
      rw [HA.out]
      rfl
end Go.Proofs.YtcnmnkgnaknpdaaGreatDoor.S02
/-! S02WalkC -/
namespace Go.Proofs.YtcnmnkgnaknpdaaGreatDoor.S02
open Go.RowKit
theorem ret_two {k k' : IntKind} {a b c d : Int} (h : a = b) (h' : c = d) : Ending.returned (.tuple #[.int k a, .int k' c]) = .returned (.tuple #[.int k b, .int k' d]) := by rw [h, h']
set_option maxHeartbeats 1600000 in
theorem parseHex_any (s : ByteArray) (w : World) (hs : s.size ≤ 9223372036854775807) :
    Calls Tryz.prog 155 #[.string s] w fun e w' => e = .returned (.tuple #[.int .i64 (NM.phN s.data.toList), .int .i64 (NM.phE s.data.toList)]) ∧ Below w.heap.size w w' := by
  have hl := NM.len_eq s
  have HL := Lib.hid hl
  clear hl
  by_cases hB : NM.vB 16 s.data.toList = true
  · by_cases h8 : s.size ≤ 8
    · have hN := NM.vN16 _ hB (by rw [HL.out]; exact h8)
      have hOk := NM.ph_ok _ hB (by rw [HL.out]; exact h8)
      have HN := Lib.hid hN
      have HO := Lib.hid hOk
      have h8' : decide (8 < s.size) = false := by simp; omega
      clear hN hOk
      go_enter Tryz.func155, Tryz.ntmps155
      go_wp2_with (go_at_call 173; refine (value_any _ 16 _ (by omega) (by omega) hs).mono ?_; rw [hB, HN.out.1]; rintro e w' ⟨rfl, hbel⟩; have hlt := HN.out.2)
      go_ret2
      exact ⟨ret_two (by rw [HO.out.2]) (by rw [HO.out.1]), hbel⟩
    · have hOk := NM.ph_bad s.data.toList (.inr (by rw [HL.out]; omega))
      have HO := Lib.hid hOk
      have h8' : decide (8 < s.size) = true := by simp; omega
      clear hOk
      go_enter Tryz.func155, Tryz.ntmps155
      go_wp2_with (go_at_call 173; refine (value_any _ 16 _ (by omega) (by omega) hs).mono ?_; rw [hB]; rintro e w' ⟨rfl, hbel⟩)
      go_ret2
      exact ⟨ret_two (by rw [HO.out.2]) (by rw [HO.out.1]), hbel⟩
  · have hB : NM.vB 16 s.data.toList = false := by simpa using hB
    have hOk := NM.ph_bad s.data.toList (.inl hB)
    have HO := Lib.hid hOk
    clear hOk
    go_enter Tryz.func155, Tryz.ntmps155
    go_wp2_with (go_at_call 173; refine (value_any _ 16 _ (by omega) (by omega) hs).mono ?_; rw [hB]; rintro e w' ⟨rfl, hbel⟩)
    go_ret2
    exact ⟨ret_two (by rw [HO.out.2]) (by rw [HO.out.1]), hbel⟩
theorem parseDec_bad (s : ByteArray) (neg : Bool) (w : World) (hs : s.size ≤ 9223372036854775807) (hB : NM.vB 10 s.data.toList = false) :
    Calls Tryz.prog 156 #[.string s, .bool neg] w fun e w' => e = .returned (.tuple #[.int .i64 (NM.pdN s.data.toList neg), .int .i64 (NM.pdE s.data.toList neg)]) ∧ Below w.heap.size w w' := by
  have HO := Lib.hid (NM.pd_bad s.data.toList neg hB)
  go_enter Tryz.func156, Tryz.ntmps156
  go_wp2_with (go_at_call 173; refine (value_any _ 10 _ (by omega) (by omega) hs).mono ?_; rw [hB]; rintro e w' ⟨rfl, hbel⟩)
  go_ret2
  exact ⟨ret_two (by rw [HO.out.2]) (by rw [HO.out.1]), hbel⟩
theorem parseDec_zero (s : ByteArray) (neg : Bool) (w : World) (hs : s.size ≤ 9223372036854775807) (hB : NM.vB 10 s.data.toList = true) (h0 : 0 < s.size) (h48 : (s[0].toNat : Int) = 48) (hn : neg = true ∨ 1 < s.size) :
    Calls Tryz.prog 156 #[.string s, .bool neg] w fun e w' => e = .returned (.tuple #[.int .i64 (NM.pdN s.data.toList neg), .int .i64 (NM.pdE s.data.toList neg)]) ∧ Below w.heap.size w w' := by
  have HO := Lib.hid (NM.pd_zero s.data.toList neg ((NM.head_eq s h0).mpr h48) (by rw [NM.len_eq]; exact hn))
  rcases hn with rfl | h1
  · go_enter Tryz.func156, Tryz.ntmps156
    go_wp2_with (go_at_call 173; refine (value_any _ 10 _ (by omega) (by omega) hs).mono ?_; rw [hB]; rintro e w' ⟨rfl, hbel⟩)
    go_ret2
    exact ⟨ret_two (by rw [HO.out.2]) (by rw [HO.out.1]), hbel⟩
  · have h1' : decide (1 < s.size) = true := by simpa using h1
    cases neg <;>
    · go_enter Tryz.func156, Tryz.ntmps156
      go_wp2_with (go_at_call 173; refine (value_any _ 10 _ (by omega) (by omega) hs).mono ?_; rw [hB]; rintro e w' ⟨rfl, hbel⟩)
      go_ret2
      exact ⟨ret_two (by rw [HO.out.2]) (by rw [HO.out.1]), hbel⟩
theorem neg_conv (v : Nat) (h0 : v ≤ 9223372036854775808) : wrap64 (IntKind.u64.wrap (-(v : Int))) = -(v : Int) := by
  unfold wrap64
  simp only [IntKind.wrap_u64]
  omega
set_option maxHeartbeats 1600000 in
theorem parseDec_rest (s : ByteArray) (neg : Bool) (w : World) (hs : s.size ≤ 9223372036854775807) (hB : NM.vB 10 s.data.toList = true) (h0 : 0 < s.size) (hz : ¬ ((s[0].toNat : Int) = 48 ∧ (neg = true ∨ 1 < s.size))) :
    Calls Tryz.prog 156 #[.string s, .bool neg] w fun e w' => e = .returned (.tuple #[.int .i64 (NM.pdN s.data.toList neg), .int .i64 (NM.pdE s.data.toList neg)]) ∧ Below w.heap.size w w' := by
  have HZ := Lib.hid (show ¬ (s.data.toList.head? = some 48 ∧ (neg = true ∨ 1 < s.data.toList.length)) by rw [NM.head_eq s h0, NM.len_eq]; exact hz)
  have HL := Lib.hid (NM.len_eq s)
  by_cases h19 : 19 < s.size
  · have HO := Lib.hid (NM.pd_long s.data.toList neg hB HZ.out (.inl (by rw [HL.out]; exact h19)))
    have h19' : decide (19 < s.size) = true := by simpa using h19
    have h1' : decide (1 < s.size) = true := by simp; omega
    have h48 : ¬ (s[0].toNat : Int) = 48 := fun h => hz ⟨h, .inr (by omega)⟩
    clear hz
    cases neg <;>
    · go_enter Tryz.func156, Tryz.ntmps156
      go_wp2_with (go_at_call 173; refine (value_any _ 10 _ (by omega) (by omega) hs).mono ?_; rw [hB]; rintro e w' ⟨rfl, hbel⟩)
      go_ret2
      exact ⟨ret_two (by rw [HO.out.2]) (by rw [HO.out.1]), hbel⟩
  · have h19' : decide (19 < (s.size : Int)) = false := by simp only [decide_eq_false_iff_not]; omega
    have HN := Lib.hid (NM.vN10 s.data.toList hB (by rw [HL.out]; omega))
    have hlt := NM.val10_lt s.data.toList (NM.vB_al hB).1 (by rw [HL.out]; omega)
    have HP := Lib.hid (fun h => NM.pd_long s.data.toList neg hB HZ.out (.inr h))
    have HQ := Lib.hid (NM.pd_ok s.data.toList neg hB HZ.out (by rw [HL.out]; omega))
    generalize NM.val 10 s.data.toList = m at *
    cases neg
    · have hg : (s[0].toNat : Int) = 48 ∧ decide (1 < (s.size : Int)) = false ∨ ¬ (s[0].toNat : Int) = 48 := by
        by_cases h : (s[0].toNat : Int) = 48
        · exact .inl ⟨h, by simp only [decide_eq_false_iff_not]; exact fun h1 => hz ⟨h, .inr (by omega)⟩⟩
        · exact .inr h
      clear hz
      by_cases hm : 9223372036854775807 < (m : Int)
      · have HO := Lib.hid (HP.out (show NM.lim false < m by simp [NM.lim]; omega))
        rcases hg with ⟨h48, h1⟩ | h48 <;>
        · go_enter Tryz.func156, Tryz.ntmps156
          go_wp2_with (go_at_call 173; refine (value_any _ 10 _ (by omega) (by omega) hs).mono ?_; rw [hB, HN.out]; rintro e w' ⟨rfl, hbel⟩)
          go_ret2
          exact ⟨ret_two (by rw [HO.out.2]) (by rw [HO.out.1]), hbel⟩
      · have HO := Lib.hid (HQ.out (show m ≤ NM.lim false by simp [NM.lim]; omega))
        rcases hg with ⟨h48, h1⟩ | h48 <;>
        · have hm' : decide (9223372036854775807 < (m : Int)) = false := by simp only [decide_eq_false_iff_not]; omega
          go_enter Tryz.func156, Tryz.ntmps156
          go_wp2_with (go_at_call 173; refine (value_any _ 10 _ (by omega) (by omega) hs).mono ?_; rw [hB, HN.out]; rintro e w' ⟨rfl, hbel⟩)
          go_ret2
          exact ⟨ret_two HO.out.2.symm HO.out.1.symm, hbel⟩
    · have h48 : ¬ (s[0].toNat : Int) = 48 := fun h => hz ⟨h, .inl rfl⟩
      clear hz
      by_cases hm : 9223372036854775808 < (m : Int)
      · have HO := Lib.hid (HP.out (show NM.lim true < m by simp [NM.lim]; omega))
        go_enter Tryz.func156, Tryz.ntmps156
        go_wp2_with (go_at_call 173; refine (value_any _ 10 _ (by omega) (by omega) hs).mono ?_; rw [hB, HN.out]; rintro e w' ⟨rfl, hbel⟩)
        go_ret2
        exact ⟨ret_two (by rw [HO.out.2]) (by rw [HO.out.1]), hbel⟩
      · have HO := Lib.hid (HQ.out (show m ≤ NM.lim true by simp [NM.lim]; omega))
        have hm' : decide (9223372036854775808 < (m : Int)) = false := by simp only [decide_eq_false_iff_not]; omega
        go_enter Tryz.func156, Tryz.ntmps156
        go_wp2_with (go_at_call 173; refine (value_any _ 10 _ (by omega) (by omega) hs).mono ?_; rw [hB, HN.out]; rintro e w' ⟨rfl, hbel⟩)
        go_ret2
        exact ⟨ret_two ((neg_conv m (by omega)).trans HO.out.2.symm) HO.out.1.symm, hbel⟩
theorem parseDec_any (s : ByteArray) (neg : Bool) (w : World) (hs : s.size ≤ 9223372036854775807) :
    Calls Tryz.prog 156 #[.string s, .bool neg] w fun e w' => e = .returned (.tuple #[.int .i64 (NM.pdN s.data.toList neg), .int .i64 (NM.pdE s.data.toList neg)]) ∧ Below w.heap.size w w' := by
  cases hB : NM.vB 10 s.data.toList
  · exact parseDec_bad s neg w hs hB
  · have h0 := NM.pos_of s 10 hB
    by_cases hz : (s[0].toNat : Int) = 48 ∧ (neg = true ∨ 1 < s.size)
    · exact parseDec_zero s neg w hs hB h0 hz.1 hz.2
    · exact parseDec_rest s neg w hs hB h0 hz
theorem size_trim (s : ByteArray) (p : List UInt8) : (⟨(Lib.trimPrefix s.data.toList p).toArray⟩ : ByteArray).size ≤ s.size := by
  show (Lib.trimPrefix s.data.toList p).toArray.size ≤ s.size
  have := NM.len_eq s
  unfold Lib.trimPrefix
  split <;> simp
theorem parse_any (s : ByteArray) (w : World) (hs : s.size ≤ 9223372036854775807) :
    Calls Tryz.prog 126 #[.string s] w fun e w' => e = .returned (.tuple #[.int .i64 (NM.pN s.data.toList), .int .i64 (NM.pE s.data.toList)]) ∧ Below w.heap.size w w' := by
  by_cases hp : Lib.hasPrefix s.data.toList [48, 120] = true
  · have HE := Lib.hid (show NM.pE s.data.toList = NM.phE (Lib.trimPrefix s.data.toList [48, 120]) by unfold NM.pE Lib.trimPrefix; rw [if_pos hp, if_pos hp]; rfl)
    have HN := Lib.hid (show NM.pN s.data.toList = NM.phN (Lib.trimPrefix s.data.toList [48, 120]) by unfold NM.pN Lib.trimPrefix; rw [if_pos hp, if_pos hp]; rfl)
    have hz := size_trim s [48, 120]
    go_enter Tryz.func126, Tryz.ntmps126
    go_wp2_with (first
      | (go_at_call 154; refine (Tryz.strings_CutPrefix _ _ _).mono ?_; rintro e w' ⟨rfl, rfl⟩)
      | (go_at_call 155; refine (parseHex_any _ _ (by simpa using Nat.le_trans hz hs)).mono ?_; rintro e w1 ⟨rfl, hbel⟩))
    go_ret2
    exact ⟨ret_two HN.out.symm HE.out.symm, hbel⟩
  · have hp : Lib.hasPrefix s.data.toList [48, 120] = false := by simpa using hp
    have HE := Lib.hid (show NM.pE s.data.toList = NM.pdE (Lib.trimPrefix s.data.toList [45]) (Lib.hasPrefix s.data.toList [45]) by unfold NM.pE; rw [if_neg (by simp [hp])])
    have HN := Lib.hid (show NM.pN s.data.toList = NM.pdN (Lib.trimPrefix s.data.toList [45]) (Lib.hasPrefix s.data.toList [45]) by unfold NM.pN; rw [if_neg (by simp [hp])])
    have hz := size_trim s [45]
    go_enter Tryz.func126, Tryz.ntmps126
    go_wp2_with (first
      | (go_at_call 154; refine (Tryz.strings_CutPrefix _ _ _).mono ?_; rintro e w' ⟨rfl, rfl⟩)
      | (go_at_call 156; refine (parseDec_any _ _ _ (by simpa using Nat.le_trans hz hs)).mono ?_; rintro e w1 ⟨rfl, hbel⟩))
    go_ret2
    exact ⟨ret_two HN.out.symm HE.out.symm, hbel⟩
end Go.Proofs.YtcnmnkgnaknpdaaGreatDoor.S02
/-! S02WalkD -/
namespace Go.Proofs.YtcnmnkgnaknpdaaGreatDoor.S02
open Go.RowKit
theorem str_info : (Tryz.prog.info? 9).map (fun i => (i.zero, i.size, i.bytes)) = some (some (.string ⟨#[]⟩), 1, 16) := by kernel_rfl
/-- A row of texts that the call owns; nothing below is changed. -/
def Row (w wr : World) (v : Value) (acc : List (List UInt8)) : Prop := wr.ownsRow w.heap.size 9 1 v acc.length (acc.map NM.tv) ∧ Below w.heap.size w wr
def ItRow (w wr : World) (s : ByteArray) (pos : Nat) (v : Value) (acc : List (List UInt8)) : Prop := wr.heap[w.heap.size]? = some (.stringIter s pos) ∧ Row w wr v acc
theorem own_iterAt {w : World} {B e size n : Nat} {v : Value} {xs : List Value} {k : Nat} {s : ByteArray} {pos : Nat} (h : w.ownsRow B e size v n xs) (hk : w.heap[k]? = some (.stringIter s pos)) (pos' : Nat) : (w.iterAt k s pos').ownsRow B e size v n xs := by
  refine ⟨h.1, ?_⟩
  rcases h.2 with h0 | ⟨g, cap, cur, hv, hb, hg, rest⟩
  · exact .inl h0
  · refine .inr ⟨g, cap, cur, hv, hb, ?_, rest⟩
    rw [Lib.iterAt_other _ _ _ _ _ (fun e => by subst e; rw [hk] at hg; cases hg)]
    exact hg
theorem own_ne_iter {w : World} {B e size n : Nat} {v : Value} {xs : List Value} {k : Nat} {s : ByteArray} {pos : Nat} (h : w.ownsRow B e size v n xs) (hk : w.heap[k]? = some (.stringIter s pos)) : some k ≠ v.ownBlock := by
  rcases h.2 with ⟨rfl, _⟩ | ⟨g, cap, cur, rfl, hb, hg, rest⟩
  · simp [Value.ownBlock]
  · intro e
    simp only [Value.ownBlock, Option.some.injEq] at e
    subst e
    rw [hk] at hg
    cases hg
theorem ItRow.start (w : World) (s : ByteArray) : ItRow w (w.iter s 0) s 0 (.slice none 0 0) [] :=
  ⟨World.iter_heap w s 0, ⟨rfl, .inl ⟨rfl, rfl⟩⟩, (Below.refl _ w).alloc (Nat.le_refl _) _⟩
theorem ItRow.on {w wr : World} {s : ByteArray} {pos : Nat} {v : Value} {acc : List (List UInt8)} (h : ItRow w wr s pos v acc) (n : Nat) : ItRow w (wr.iterAt w.heap.size s n) s n v acc :=
  ⟨Lib.iterAt_heap wr w.heap.size s pos n h.1, own_iterAt h.2.1 h.1 n, Lib.below_iterAt h.2.2 (Nat.le_refl _) s n⟩
theorem Row.app {w wn w1 : World} {v v' x : Value} {acc : List (List UInt8)} {y : List UInt8} {o : Obj} (h : Row w wn v acc) (hx : x = NM.tv y)
    (hown : w1.ownsRow w.heap.size 9 1 v' (acc.length + 1) (acc.map NM.tv ++ [x])) (hg : (wn.alloc o).grownBy w1 v.ownBlock) : Row w w1 v' (acc ++ [y]) := by
  subst hx
  refine ⟨by rw [List.length_append, List.map_append]; exact hown, ?_⟩
  refine (h.2.alloc h.2.size o).grown hg (by have := h.2.size; simp; omega) fun k hk => ?_
  rcases h.1.2 with ⟨rfl, _⟩ | ⟨g, cap, cur, rfl, hb, _⟩
  · simp [Value.ownBlock] at hk
  · simp only [Value.ownBlock, Option.some.injEq] at hk
    omega
theorem ItRow.app {w wn w1 : World} {s : ByteArray} {pos : Nat} {v v' x : Value} {acc : List (List UInt8)} {y : List UInt8} {o : Obj} (h : ItRow w wn s pos v acc) (hx : x = NM.tv y)
    (hown : w1.ownsRow w.heap.size 9 1 v' (acc.length + 1) (acc.map NM.tv ++ [x])) (hg : (wn.alloc o).grownBy w1 v.ownBlock) : ItRow w w1 s pos v' (acc ++ [y]) := by
  refine ⟨?_, h.2.app hx hown hg⟩
  have hlt : w.heap.size < wn.heap.size := (Array.getElem?_eq_some_iff.1 h.1).1
  rw [hg.block w.heap.size (by simp; omega) (own_ne_iter h.2.1 h.1), Below.heap_alloc wn o _ hlt]
  exact h.1
theorem new_cell (w : World) (x : Value) (t : TypeId) : ∀ j u, [x][j]? = some u → (w.alloc (.cells #[x] t)).cell? ((⟨w.heap.size, 0, none⟩ : Addr).add j) = some u := by
  intro j u hj
  match j, hj with
  | 0, hj => simp at hj; subst hj; simp [Addr.add]
theorem one_str (s : ByteArray) : ∀ u ∈ [Value.string s], u.oneCell' = true := by
  intro u hu; simp at hu; subst hu; rfl
set_option maxHeartbeats 1600000 in
theorem words_any (s : ByteArray) (w : World) (hs : s.size ≤ 100000) :
    Calls Tryz.prog 93 #[.string s] w fun e w' => ∃ v, e = .returned v ∧ Row w w' v (NM.wd s.data.toList) := by
  obtain ⟨i0, HI⟩ := info_parts str_info
  have HI := Lib.hid HI
  go_enter Tryz.func93, Tryz.ntmps93
  go_wp2
  go_loopw [3, 4] (fun v f wr => ∃ (pos fr : Nat) (acc : List (List UInt8)), pos ≤ s.size ∧ fr ≤ pos ∧ acc.length ≤ pos ∧ Hid (NM.ws s.data.toList pos = (acc, fr)) ∧ f = .int .i64 fr ∧ Hid (ItRow w wr s pos v acc)) (fun _ _ wr => s.size - wr.iterPos w.heap.size)
  case atStart =>
    exact ⟨0, 0, [], by omega, by omega, by simp, rfl, rfl, ItRow.start w s⟩
  case round =>
    rename_i v f
    obtain ⟨pos, fr, acc, hp, hfr, hacc, hws, rfl, hit⟩ := hrel
    by_cases hlt : pos < s.size
    · have hnx : ∀ ty, (Instr.next (.pointer (some ⟨w.heap.size, 0, none⟩)) true ty).run Tryz.prog wr = _ := fun ty => Lib.run_next_any_at wr w.heap.size s pos ty hit.out.1 hlt
      have HD := Lib.hid (NM.dec_sep s pos hlt)
      have hr := decode_le s pos
      cases hsep : NM.sepB s[pos]
      · have HK := Lib.hid (NM.dec_skip s pos hlt hsep)
        go_wp2_with (go_at_call 133; refine (separates_any _ _).mono ?_; rw [HD.out, hsep]; rintro e w' ⟨rfl, rfl⟩)
        go_roundw
        case rel =>
          exact ⟨pos + (Utf8.decode s pos).2, fr, acc, HK.out.1, by omega, by omega, by rw [HK.out.2.2]; exact hws, rfl, Lib.hid (hit.out.on _)⟩
        case measure =>
          have h1 := HK.out.2.1
          simp only [World.iterPos, (hit.out.on (pos + (Utf8.decode s pos).2)).1, hit.out.1]
          omega
      · have e1 := NM.dec_one s pos hlt (NM.sepB_low _ hsep)
        have HG := Lib.hid (show NM.sepB (s.data.toList.getD pos 0) = true by rw [NM.getD_eq s pos hlt]; exact hsep)
        rw [e1] at hnx
        have HE := Lib.hid e1
        clear e1
        have h1 := Lib.hid (hit.out.on (pos + 1))
        have hm : s.size - (wr.iterAt w.heap.size s (pos + 1)).iterPos w.heap.size < s.size - wr.iterPos w.heap.size := by
          simp only [World.iterPos, h1.out.1, hit.out.1]
          omega
        generalize wr.iterAt w.heap.size s (pos + 1) = wn at *
        by_cases hf : fr < pos
        · have hf' : decide (fr < pos) = true := by simpa using hf
          go_wp2_with (first
            | (go_at_call 133; refine (separates_any _ _).mono ?_; rw [HD.out, hsep]; rintro e w' ⟨rfl, rfl⟩)
            | (at_builtin; refine wpList_append_own _ rfl _ _ 38 rfl w.heap.size 9 i0 (.string ⟨#[]⟩) 1 16 Tryz.underlying38 HI.out.1 HI.out.2.1 HI.out.2.2.1 HI.out.2.2.2 rfl (by decide) _ _ _ rfl (h1.out.2.1.alloc _) ⟨_, 0, none⟩ 1 1 [.string (s.extract fr pos)] rfl rfl (new_cell _ _ _) (one_str _) (by unfold maxLen; omega) (by omega) (by have := h1.out.2.2.size; simp; omega) ?_))
          intro v' w1 hown hgrow _
          have HR := Lib.hid (h1.out.app (NM.tv_extract s fr pos) hown hgrow)
          have hws' := hws.out
          have HW := Lib.hid (show NM.ws s.data.toList (pos + 1) = (acc ++ [NM.sl s.data.toList fr pos], pos + 1) by rw [NM.ws_cut _ _ HG.out (by rw [hws']; exact hf), hws'])
          clear hown hgrow hws' hnx
          go_wp2
          go_roundw
          case rel => exact ⟨pos + 1, pos + 1, _, by omega, by omega, by rw [List.length_append, List.length_singleton]; omega, HW, by go_num, HR⟩
          case measure =>
            simp only [World.iterPos, HR.out.1, hit.out.1]
            omega
        · have hf' : decide (fr < pos) = false := by simp; omega
          go_wp2_with (go_at_call 133; refine (separates_any _ _).mono ?_; rw [HD.out, hsep]; rintro e w' ⟨rfl, rfl⟩)
          have hws' := hws.out
          have HW := Lib.hid (show NM.ws s.data.toList (pos + 1) = (acc, pos + 1) by rw [NM.ws_gap _ _ HG.out (by rw [hws']; exact hf), hws'])
          clear hws' hnx
          go_roundw
          case rel => exact ⟨pos + 1, pos + 1, acc, by omega, by omega, by omega, HW, by go_num, h1⟩
          case measure => exact hm
    · have hnx : ∀ ty, (Instr.next (.pointer (some ⟨w.heap.size, 0, none⟩)) true ty).run Tryz.prog wr = _ := fun ty => Lib.run_next_end_at wr w.heap.size s pos ty hit.out.1 hlt
      obtain rfl : pos = s.size := by omega
      have hws' := hws.out
      have hlen := NM.len_eq s
      by_cases hf : fr < s.size
      · have HW := Lib.hid (show NM.wd s.data.toList = acc ++ [NM.sl s.data.toList fr s.size] by unfold NM.wd; rw [hlen, hws', if_pos hf])
        have hf' : decide (fr < s.size) = true := by simpa using hf
        clear hws' hlen
        go_wp2_with (at_builtin; refine wpList_append_own _ rfl _ _ 38 rfl w.heap.size 9 i0 (.string ⟨#[]⟩) 1 16 Tryz.underlying38 HI.out.1 HI.out.2.1 HI.out.2.2.1 HI.out.2.2.2 rfl (by decide) _ _ _ rfl (hit.out.2.1.alloc _) ⟨_, 0, none⟩ 1 1 [.string (s.extract fr s.size)] rfl rfl (new_cell _ _ _) (one_str _) (by unfold maxLen; omega) (by omega) (by have := hit.out.2.2.size; simp; omega) ?_)
        intro v' w1 hown hgrow _
        have HR := Lib.hid (hit.out.2.app (NM.tv_extract s fr s.size) hown hgrow)
        clear hown hgrow hnx
        go_wp2
        go_ret
        rw [HW.out]
        exact ⟨_, rfl, HR.out⟩
      · have HW := Lib.hid (show NM.wd s.data.toList = acc by unfold NM.wd; rw [hlen, hws', if_neg hf])
        have hf' : decide (fr < s.size) = false := by simp; omega
        clear hws' hlen
        go_wp2
        go_ret
        rw [HW.out]
        exact ⟨_, rfl, hit.out.2⟩
end Go.Proofs.YtcnmnkgnaknpdaaGreatDoor.S02
/-! S02WalkE -/
namespace Go.Proofs.YtcnmnkgnaknpdaaGreatDoor.S02
open Go.RowKit
theorem Row.start (w : World) : Row w (w.alloc (.cells #[] 9)) (.slice (some ⟨w.heap.size, 0, none⟩) 0 0) [] :=
  ⟨World.ownsRow_lit w #[] 0 (Nat.le_refl _) (by unfold maxLen; omega) rfl, (Below.refl _ w).alloc (Nat.le_refl _) _⟩
set_option maxHeartbeats 1600000 in
theorem rwords_any (s : ByteArray) (w : World) (hs : s.size ≤ 100000) :
    Calls Tryz.prog 52 #[.string s] w fun e w' => ∃ v, e = .returned v ∧ Row w w' v (NM.wd s.data.toList) := by
  obtain ⟨i0, HI⟩ := info_parts str_info
  have HI := Lib.hid HI
  go_enter Tryz.func52, Tryz.ntmps52
  go_wp2
  go_loopw [3, 4, 5] (fun v f i wr => ∃ (k fr : Nat) (acc : List (List UInt8)), k ≤ s.size + 1 ∧ fr ≤ k ∧ acc.length ≤ k ∧ Hid (k ≤ s.size ∧ NM.ws s.data.toList k = (acc, fr) ∨ k = s.size + 1 ∧ NM.wd s.data.toList = acc) ∧ f = .int .i64 fr ∧ i = .int .i64 k ∧ Hid (Row w wr v acc)) (fun _ _ i _ => s.size + 1 - (intOf i).toNat)
  case atStart =>
    exact ⟨0, 0, [], by omega, by omega, by simp, Lib.hid (.inl ⟨by omega, rfl⟩), rfl, rfl, Row.start w⟩
  case round =>
    obtain ⟨k, fr, acc, hk, hfr, hacc, hws, rfl, rfl, hrow⟩ := hrel
    have hlen := Lib.hid (NM.len_eq s)
    by_cases hle : k ≤ s.size
    · have hws' : NM.ws s.data.toList k = (acc, fr) := by
        rcases hws.out with h | h
        · exact h.2
        · omega
      have HW := Lib.hid hws'
      clear hws hws'
      by_cases hlt : k < s.size
      · cases hsep : NM.sepB s[k]
        · have HN := Lib.hid (show NM.ws s.data.toList (k + 1) = (acc, fr) by rw [NM.ws_no _ _ (by rw [NM.getD_eq s k hlt]; exact hsep)]; exact HW.out)
          go_wp2_with (go_at_call 98; refine (between_any _ _).mono ?_; rw [hsep]; rintro e w' ⟨rfl, rfl⟩)
          go_roundw
          case rel => exact ⟨k + 1, fr, acc, by omega, by omega, by omega, Lib.hid (.inl ⟨by omega, HN.out⟩), rfl, by go_num, hrow⟩
          case measure => simp [intOf]; omega
        · have HG := Lib.hid (show NM.sepB (s.data.toList.getD k 0) = true by rw [NM.getD_eq s k hlt]; exact hsep)
          by_cases hf : fr < k
          · have hf' : decide (fr < k) = true := by simpa using hf
            go_wp2_with (first
              | (go_at_call 98; refine (between_any _ _).mono ?_; rw [hsep]; rintro e w' ⟨rfl, rfl⟩)
              | (at_builtin; refine wpList_append_own _ rfl _ _ 38 rfl w.heap.size 9 i0 (.string ⟨#[]⟩) 1 16 Tryz.underlying38 HI.out.1 HI.out.2.1 HI.out.2.2.1 HI.out.2.2.2 rfl (by decide) _ _ _ rfl (hrow.out.1.alloc _) ⟨_, 0, none⟩ 1 1 [.string (s.extract fr k)] rfl rfl (new_cell _ _ _) (one_str _) (by unfold maxLen; omega) (by omega) (by have := hrow.out.2.size; simp; omega) ?_))
            intro v' w1 hown hgrow _
            have HR := Lib.hid (hrow.out.app (NM.tv_extract s fr k) hown hgrow)
            have HN := Lib.hid (show NM.ws s.data.toList (k + 1) = (acc ++ [NM.sl s.data.toList fr k], k + 1) by rw [NM.ws_cut _ _ HG.out (by rw [HW.out]; exact hf), HW.out])
            clear hown hgrow
            go_wp2
            go_roundw
            case rel => exact ⟨k + 1, k + 1, _, by omega, by omega, by rw [List.length_append, List.length_singleton]; omega, Lib.hid (.inl ⟨by omega, HN.out⟩), by go_num, by go_num, HR⟩
            case measure => simp [intOf]; omega
          · have hf' : decide (fr < k) = false := by simp; omega
            have HN := Lib.hid (show NM.ws s.data.toList (k + 1) = (acc, k + 1) by rw [NM.ws_gap _ _ HG.out (by rw [HW.out]; exact hf), HW.out])
            go_wp2_with (go_at_call 98; refine (between_any _ _).mono ?_; rw [hsep]; rintro e w' ⟨rfl, rfl⟩)
            go_roundw
            case rel => exact ⟨k + 1, k + 1, acc, by omega, by omega, by omega, Lib.hid (.inl ⟨by omega, HN.out⟩), by go_num, by go_num, hrow⟩
            case measure => simp [intOf]; omega
      · obtain rfl : k = s.size := by omega
        by_cases hf : fr < s.size
        · have hf' : decide (fr < s.size) = true := by simpa using hf
          have HN := Lib.hid (show NM.wd s.data.toList = acc ++ [NM.sl s.data.toList fr s.size] by unfold NM.wd; rw [hlen.out, HW.out, if_pos hf])
          go_wp2_with (first
            | (at_builtin; refine wpList_append_own _ rfl _ _ 38 rfl w.heap.size 9 i0 (.string ⟨#[]⟩) 1 16 Tryz.underlying38 HI.out.1 HI.out.2.1 HI.out.2.2.1 HI.out.2.2.2 rfl (by decide) _ _ _ rfl (hrow.out.1.alloc _) ⟨_, 0, none⟩ 1 1 [.string (s.extract fr s.size)] rfl rfl (new_cell _ _ _) (one_str _) (by unfold maxLen; omega) (by omega) (by have := hrow.out.2.size; simp; omega) ?_))
          intro v' w1 hown hgrow _
          have HR := Lib.hid (hrow.out.app (NM.tv_extract s fr s.size) hown hgrow)
          clear hown hgrow
          go_wp2
          go_roundw
          case rel => exact ⟨s.size + 1, s.size + 1, _, by omega, by omega, by rw [List.length_append, List.length_singleton]; omega, Lib.hid (.inr ⟨rfl, HN.out⟩), by go_num, by go_num, HR⟩
          case measure => simp [intOf]
        · have hf' : decide (fr < s.size) = false := by simp; omega
          have HN := Lib.hid (show NM.wd s.data.toList = acc by unfold NM.wd; rw [hlen.out, HW.out, if_neg hf])
          go_wp2
          go_roundw
          case rel => exact ⟨s.size + 1, s.size + 1, acc, by omega, by omega, by omega, Lib.hid (.inr ⟨rfl, HN.out⟩), by go_num, by go_num, hrow⟩
          case measure => simp [intOf]
    · have HN : NM.wd s.data.toList = acc := by
        rcases hws.out with h | h
        · omega
        · exact h.2
      have HN := Lib.hid HN
      clear hws
      go_wp2
      go_ret
      rw [HN.out]
      exact ⟨_, rfl, hrow.out⟩
end Go.Proofs.YtcnmnkgnaknpdaaGreatDoor.S02
/-! S02WalkF -/
namespace Go.Proofs.YtcnmnkgnaknpdaaGreatDoor.S02
open Go.RowKit
/-- The world has only drawn. -/
def Dr (w w' : World) : Prop := ∃ n, w' = w.drewN n
theorem Dr.refl (w : World) : Dr w w := ⟨0, rfl⟩
theorem Dr.cell {w w' : World} (h : Dr w w') (a : Addr) : w'.cell? a = w.cell? a := by obtain ⟨n, rfl⟩ := h; rfl
theorem Dr.more {w w' : World} (h : Dr w w') (n : Nat) : Dr w (w'.drewN n) := by obtain ⟨m, rfl⟩ := h; exact ⟨m + n, by simp⟩
theorem Dr.below {w w' : World} (h : Dr w w') : Below w.heap.size w w' := by
  obtain ⟨n, rfl⟩ := h
  exact below_drewN (Below.refl _ _) n
theorem own_open {w : World} {B n : Nat} {x : Value} {l : List (List UInt8)} (h : w.ownsRow B 9 1 x n (l.map NM.tv)) :
    (n = 0 ∧ ∃ ao cap, x = .slice ao 0 cap) ∨ (∃ g cap, x = .slice (some ⟨g, 0, none⟩) n cap ∧ ∀ i, i < n → w.cell? ⟨g, i, none⟩ = some (NM.tv (l.getD i []))) := by
  have hlen : l.length = n := by have := h.1; rw [List.length_map] at this; omega
  rcases h.2 with ⟨rfl, rfl⟩ | ⟨g, cap, cur, rfl, hb, _⟩
  · exact .inl ⟨rfl, _, _, rfl⟩
  · refine .inr ⟨g, cap, rfl, fun i hi => ?_⟩
    rw [h.cellAt i (by omega)]
    have hi' : i < l.length := by omega
    simp [hi']
theorem own_below {w w' : World} {B n : Nat} {x : Value} {l : List Value} (h : w.ownsRow B 9 1 x n l) (hb : Below w.heap.size w w') : w'.ownsRow B 9 1 x n l := by
  refine ⟨h.1, ?_⟩
  have hlt := h.lt
  rcases h.2 with h' | ⟨g, cap, cur, rfl, h1, h2, h3⟩
  · exact .inl h'
  · exact .inr ⟨g, cap, cur, rfl, h1, (hb.block g (hlt g rfl).2).trans h2, h3⟩
end Go.Proofs.YtcnmnkgnaknpdaaGreatDoor.S02
/-! S02WalkG -/
namespace Go.Proofs.YtcnmnkgnaknpdaaGreatDoor.S02
open Go.RowKit
/-- A row of texts and an error. -/
def RowE (w : World) (acc : List (List UInt8)) (n : Int) (e : Ending) (w' : World) : Prop := ∃ v, e = .returned (.tuple #[v, .int .i64 n]) ∧ Row w w' v acc
theorem RowE.mk {w w' : World} {acc acc' : List (List UInt8)} {n n' : Int} {v : Value} (h : Row w w' v acc') (ha : acc = acc') (hn : n = n') : RowE w acc n (.returned (.tuple #[v, .int .i64 n'])) w' := by
  subst ha hn
  exact ⟨v, rfl, h⟩
theorem Row.nil {w w' : World} (h : Below w.heap.size w w') : Row w w' (.slice none 0 0) [] := ⟨⟨rfl, .inl ⟨rfl, rfl⟩⟩, h⟩
theorem count_any (s : ByteArray) (c : UInt8) (w : World) : Calls Tryz.prog 46 #[.string s, .string ⟨#[c]⟩] w fun e w' => e = .returned (.int .i64 (Lib.countByte s.data.toList c)) ∧ w = w' :=
  (Tryz.strings_Count_one s c w).mono fun _ _ ⟨h, h'⟩ => ⟨h, h'.symm⟩
theorem lines_long (s : ByteArray) (w : World) (hs : s.size ≤ 9223372036854775807) (h : 65536 < s.size) :
    Calls Tryz.prog 22 #[.string s] w (RowE w (NM.lL s.data.toList) (NM.lE s.data.toList)) := by
  have HO := Lib.hid (NM.l_long s.data.toList (.inl (by rw [NM.len_eq]; exact h)))
  go_enter Tryz.func22, Tryz.ntmps22
  go_wp2
  go_ret2
  exact RowE.mk (Row.nil (Below.refl _ _)) HO.out.2 HO.out.1
theorem lines_many (s : ByteArray) (w : World) (h : s.size ≤ 65536) (hc : 4096 < Lib.countByte s.data.toList 10) :
    Calls Tryz.prog 22 #[.string s] w (RowE w (NM.lL s.data.toList) (NM.lE s.data.toList)) := by
  have HO := Lib.hid (NM.l_long s.data.toList (.inr hc))
  have h' : decide (65536 < (s.size : Int)) = false := by simp only [decide_eq_false_iff_not]; omega
  have hc' : decide (4096 < (Lib.countByte s.data.toList 10 : Int)) = true := by simp only [decide_eq_true_eq]; omega
  go_enter Tryz.func22, Tryz.ntmps22
  go_wp2_with (go_at_call 46; refine (count_any _ _ _).mono ?_; rintro e w' ⟨rfl, rfl⟩)
  go_ret2
  exact RowE.mk (Row.nil (Below.refl _ _)) HO.out.2 HO.out.1
set_option maxHeartbeats 1600000 in
theorem lines_few (s : ByteArray) (w : World) (h : s.size ≤ 65536) (hc : Lib.countByte s.data.toList 10 ≤ 4096) :
    Calls Tryz.prog 22 #[.string s] w (RowE w (NM.lL s.data.toList) (NM.lE s.data.toList)) := by
  obtain ⟨i0, HI⟩ := info_parts str_info
  have HI := Lib.hid HI
  have hlen := Lib.hid (NM.len_eq s)
  have HC := Lib.hid (show ¬ (65536 < s.data.toList.length ∨ 4096 < Lib.countByte s.data.toList 10) by rw [hlen.out]; omega)
  have h' : decide (65536 < (s.size : Int)) = false := by simp only [decide_eq_false_iff_not]; omega
  have hc' : decide (4096 < (Lib.countByte s.data.toList 10 : Int)) = false := by simp only [decide_eq_false_iff_not]; omega
  go_enter Tryz.func22, Tryz.ntmps22
  go_wp2_with (go_at_call 46; refine (count_any _ _ _).mono ?_; rintro e w' ⟨rfl, rfl⟩)
  go_loopw [4, 5] (fun v f wr => ∃ (pos fr : Nat) (acc : List (List UInt8)), pos ≤ s.size ∧ fr ≤ pos ∧ acc.length ≤ pos ∧ Hid (NM.aok (s.data.toList.take pos) = true ∧ NM.ln s.data.toList pos = (acc, fr)) ∧ f = .int .i64 fr ∧ Hid (ItRow w wr s pos v acc)) (fun _ _ wr => s.size - wr.iterPos w.heap.size)
  case atStart =>
    exact ⟨0, 0, [], by omega, by omega, by simp, Lib.hid ⟨rfl, rfl⟩, rfl, ItRow.start w s⟩
  case round =>
    obtain ⟨pos, fr, acc, hp, hfr, hacc, hln, rfl, hit⟩ := hrel
    by_cases hlt : pos < s.size
    · by_cases ha : (s[pos]).toNat < 128
      · have hnx : ∀ ty, (Instr.next (.pointer (some ⟨w.heap.size, 0, none⟩)) true ty).run Tryz.prog wr = _ := fun ty => Lib.run_next_ascii_at wr w.heap.size s pos ty hit.out.1 hlt ha
        have h1 := Lib.hid (hit.out.on (pos + 1))
        have hm : s.size - (wr.iterAt w.heap.size s (pos + 1)).iterPos w.heap.size < s.size - wr.iterPos w.heap.size := by
          simp only [World.iterPos, h1.out.1, hit.out.1]
          omega
        generalize wr.iterAt w.heap.size s (pos + 1) = wn at *
        by_cases h10 : (s[pos].toNat : Int) = 10
        · have HW := Lib.hid (show NM.aok (s.data.toList.take (pos + 1)) = true ∧ NM.ln s.data.toList (pos + 1) = (acc ++ [NM.sl s.data.toList fr pos], pos + 1) from
            ⟨by rw [NM.take_snoc s pos hlt, NM.aok_snoc, hln.out.1, (NM.okb_lf _ h10).1]; rfl, by rw [NM.ln_cut _ _ (by rw [NM.getD_eq s pos hlt]; exact (NM.okb_lf _ h10).2), hln.out.2]⟩)
          go_wp2_with (first
            | (at_builtin; refine wpList_append_own _ rfl _ _ 38 rfl w.heap.size 9 i0 (.string ⟨#[]⟩) 1 16 Tryz.underlying38 HI.out.1 HI.out.2.1 HI.out.2.2.1 HI.out.2.2.2 rfl (by decide) _ _ _ rfl (h1.out.2.1.alloc _) ⟨_, 0, none⟩ 1 1 [.string (s.extract fr pos)] rfl rfl (new_cell _ _ _) (one_str _) (by unfold maxLen; omega) (by omega) (by have := h1.out.2.2.size; simp; omega) ?_))
          intro v' w1 hown hgrow _
          have HR := Lib.hid (h1.out.app (NM.tv_extract s fr pos) hown hgrow)
          clear hown hgrow hnx
          go_wp2
          go_roundw
          case rel => exact ⟨pos + 1, pos + 1, _, by omega, by omega, by rw [List.length_append, List.length_singleton]; omega, HW, by go_num, HR⟩
          case measure =>
            simp only [World.iterPos, HR.out.1, hit.out.1]
            omega
        · have HK := Lib.hid (NM.okb_not _ h10)
          cases hpr : NM.prB s[pos]
          · have HB := Lib.hid (NM.l_bad _ HC.out (.inl (NM.aok_bad s pos hlt (by rw [HK.out.1]; exact hpr))))
            go_wp2_with (go_at_call 47; refine (printable_any _ _).mono ?_; rw [show NM.prR (s[pos].toNat : Int) = false from hpr]; rintro e w' ⟨rfl, rfl⟩)
            go_ret2
            exact RowE.mk (Row.nil h1.out.2.2) HB.out.2 HB.out.1
          · have HW := Lib.hid (show NM.aok (s.data.toList.take (pos + 1)) = true ∧ NM.ln s.data.toList (pos + 1) = (acc, fr) from
              ⟨by rw [NM.take_snoc s pos hlt, NM.aok_snoc, hln.out.1, HK.out.1, hpr]; rfl, by rw [NM.ln_no _ _ (by rw [NM.getD_eq s pos hlt]; exact HK.out.2), hln.out.2]⟩)
            go_wp2_with (go_at_call 47; refine (printable_any _ _).mono ?_; rw [show NM.prR (s[pos].toNat : Int) = true from hpr]; rintro e w' ⟨rfl, rfl⟩)
            clear hnx
            go_roundw
            case rel => exact ⟨pos + 1, fr, acc, by omega, by omega, by omega, HW, rfl, h1⟩
            case measure => exact hm
      · have hnx : ∀ ty, (Instr.next (.pointer (some ⟨w.heap.size, 0, none⟩)) true ty).run Tryz.prog wr = _ := fun ty => Lib.run_next_any_at wr w.heap.size s pos ty hit.out.1 hlt
        have hh := decode_high s pos hlt (by omega)
        have hr := decode_le s pos
        have HB := Lib.hid (NM.l_bad _ HC.out (.inl (NM.aok_bad s pos hlt (NM.okb_high _ (by omega)))))
        have HP := Lib.hid (NM.prR_high ((Utf8.decode s pos).1 : Int) (by omega))
        have hn10 : ¬ ((Utf8.decode s pos).1 : Int) = 10 := by omega
        go_wp2_with (go_at_call 47; refine (printable_any _ _).mono ?_; rw [HP.out]; rintro e w' ⟨rfl, rfl⟩)
        go_ret2
        exact RowE.mk (Row.nil (hit.out.on _).2.2) HB.out.2 HB.out.1
    · have hnx : ∀ ty, (Instr.next (.pointer (some ⟨w.heap.size, 0, none⟩)) true ty).run Tryz.prog wr = _ := fun ty => Lib.run_next_end_at wr w.heap.size s pos ty hit.out.1 hlt
      obtain rfl : pos = s.size := by omega
      have hok := hln.out.1
      rw [NM.take_all s _ (Nat.le_refl _)] at hok
      have HK := Lib.hid hok
      clear hok
      by_cases hf : fr < s.size
      · have hf' : decide (fr < s.size) = true := by simpa using hf
        have HB := Lib.hid (NM.l_bad _ HC.out (.inr (by rw [hlen.out, hln.out.2]; exact hf)))
        go_wp2
        go_ret2
        exact RowE.mk (Row.nil hit.out.2.2) HB.out.2 HB.out.1
      · have hf' : decide (fr < s.size) = false := by simp; omega
        have HB := Lib.hid (NM.l_ok _ HC.out HK.out (by rw [hlen.out, hln.out.2]; exact hf))
        have HE := Lib.hid (show (NM.ln s.data.toList s.data.toList.length).1 = acc by rw [hlen.out, hln.out.2])
        go_wp2
        go_ret2
        exact RowE.mk hit.out.2 (by rw [HB.out.2, HE.out]) HB.out.1
theorem lines_any (s : ByteArray) (w : World) (hs : s.size ≤ 9223372036854775807) :
    Calls Tryz.prog 22 #[.string s] w (RowE w (NM.lL s.data.toList) (NM.lE s.data.toList)) := by
  by_cases h : 65536 < s.size
  · exact lines_long s w hs h
  · by_cases hc : 4096 < Lib.countByte s.data.toList 10
    · exact lines_many s w (by omega) hc
    · exact lines_few s w (by omega) (by omega)
end Go.Proofs.YtcnmnkgnaknpdaaGreatDoor.S02
/-! S02WalkH -/
namespace Go.Proofs.YtcnmnkgnaknpdaaGreatDoor.S02
open Go.RowKit
theorem Row.fresh {w wr : World} (h : Below w.heap.size w wr) : Row w (wr.alloc (.cells #[] 9)) (.slice (some ⟨wr.heap.size, 0, none⟩) 0 0) [] :=
  ⟨World.ownsRow_lit wr #[] 0 h.size (by unfold maxLen; omega) rfl, h.alloc h.size _⟩
set_option maxHeartbeats 3200000 in
theorem rlines_any (s : ByteArray) (w : World) (hs : s.size ≤ 1000000) :
    Calls Tryz.prog 50 #[.string s] w (RowE w (NM.lL s.data.toList) (NM.lE s.data.toList)) := by
  obtain ⟨i0, HI⟩ := info_parts str_info
  have HI := Lib.hid HI
  have hlen := Lib.hid (NM.len_eq s)
  go_enter Tryz.func50, Tryz.ntmps50
  go_wp2
  go_loop [4, 5] (fun n i => ∃ k : Nat, k ≤ s.size ∧ i = .int .i64 k ∧ n = .int .i64 (Lib.countByte (s.data.toList.take k) 10)) (fun _ i => s.size - (intOf i).toNat)
  case atStart => exact ⟨0, by omega, rfl, by simp [Lib.countByte]⟩
  case round =>
    obtain ⟨k, hk, rfl, rfl⟩ := hrel
    have hcl := NM.count_le s.data.toList k
    by_cases hlt : k < s.size
    · have HC := Lib.hid (NM.count_snoc s k hlt)
      by_cases h10 : (s[k].toNat : Int) = 10
      · go_wp2
        go_round
        case rel => exact ⟨k + 1, by omega, by go_num, by rw [HC.out, if_pos h10]; go_num⟩
        case measure => simp [intOf]; omega
      · go_wp2
        go_round
        case rel => exact ⟨k + 1, by omega, by go_num, by rw [HC.out, if_neg h10]; go_num⟩
        case measure => simp [intOf]; omega
    · rw [NM.take_all s k (by omega)]
      rw [NM.take_all s k (by omega)] at hcl
      generalize hcn : Lib.countByte s.data.toList 10 = c at *
      have HCN := Lib.hid hcn
      clear hcn
      by_cases hL : 65536 < (s.size : Int)
      · have HO := Lib.hid (NM.l_long s.data.toList (.inl (by rw [hlen.out]; omega)))
        go_wp2
        go_ret2
        exact RowE.mk (Row.start w) HO.out.2 HO.out.1
      · have hL' : decide (65536 < (s.size : Int)) = false := by simp only [decide_eq_false_iff_not]; omega
        by_cases hC : 4096 < (c : Int)
        · have HO := Lib.hid (NM.l_long s.data.toList (.inr (by rw [HCN.out]; omega)))
          go_wp2
          go_ret2
          exact RowE.mk (Row.start w) HO.out.2 HO.out.1
        · have hC' : decide (4096 < (c : Int)) = false := by simp only [decide_eq_false_iff_not]; omega
          have HC := Lib.hid (show ¬ (65536 < s.data.toList.length ∨ 4096 < Lib.countByte s.data.toList 10) by rw [hlen.out, HCN.out]; omega)
          by_cases h0 : s.size = 0
          · have hz : decide (0 < (s.size : Int)) = false := by simp only [decide_eq_false_iff_not]; omega
            have hz' : decide (0 < s.size) = false := by simp only [decide_eq_false_iff_not]; omega
            have hd : s.data.toList = [] := List.length_eq_zero_iff.mp (by rw [hlen.out]; exact h0)
            have HB := Lib.hid (NM.l_ok _ HC.out (by rw [hd]; rfl) (by rw [hd]; decide))
            have HE := Lib.hid (show (NM.ln s.data.toList s.data.toList.length).1 = [] by rw [hd]; rfl)
            have hle : s.size ≤ 0 := by omega
            clear hd h0
            go_wp2
            refine wp_loop_rounds 1 ?_
            rw [rounds_succ]
            go_wp2
            go_ret2
            exact RowE.mk (Row.start w) (by rw [HB.out.2, HE.out]) HB.out.1
          · have hp : 0 < s.size := by omega
            have hp1 : 0 < (s.size : Int) := by omega
            have hb : 1 ≤ (s.size : Int) ∧ (s.size : Int) - 1 < s.size := by omega
            have HLL := Lib.hid (NM.ln_last' s hp)
            by_cases hl10 : (s[s.size - 1].toNat : Int) = 10
            · have hl' : ((s[s.size - 1].toNat : Int) != 10) = false := by rw [hl10]; rfl
              have HLA := Lib.hid (show ¬ (NM.ln s.data.toList s.size).2 < s.size from fun h => HLL.out.mp h hl10)
              clear h0 hl10
              go_wp2
              go_loopw [6, 7, 8] (fun v f i wr => ∃ (k fr : Nat) (acc : List (List UInt8)), k ≤ s.size ∧ fr ≤ k ∧ acc.length ≤ k ∧ Hid (NM.aok (s.data.toList.take k) = true ∧ NM.ln s.data.toList k = (acc, fr)) ∧ f = .int .i64 fr ∧ i = .int .i64 k ∧ Hid (Row w wr v acc)) (fun _ _ i _ => s.size - (intOf i).toNat)
              case atStart =>
                exact ⟨0, 0, [], by omega, by omega, by simp, Lib.hid ⟨rfl, rfl⟩, rfl, rfl, Row.start w⟩
              case round =>
                obtain ⟨k, fr, acc, hk, hfr, hacc, hln, rfl, rfl, hrow⟩ := hrel
                by_cases hlt : k < s.size
                · by_cases h10 : (s[k].toNat : Int) = 10
                  · have HW := Lib.hid (show NM.aok (s.data.toList.take (k + 1)) = true ∧ NM.ln s.data.toList (k + 1) = (acc ++ [NM.sl s.data.toList fr k], k + 1) from
                      ⟨by rw [NM.take_snoc s k hlt, NM.aok_snoc, hln.out.1, (NM.okb_lf _ h10).1]; rfl, by rw [NM.ln_cut _ _ (by rw [NM.getD_eq s k hlt]; exact (NM.okb_lf _ h10).2), hln.out.2]⟩)
                    go_wp2_with (first
                      | (at_builtin; refine wpList_append_own _ rfl _ _ 38 rfl w.heap.size 9 i0 (.string ⟨#[]⟩) 1 16 Tryz.underlying38 HI.out.1 HI.out.2.1 HI.out.2.2.1 HI.out.2.2.2 rfl (by decide) _ _ _ rfl (hrow.out.1.alloc _) ⟨_, 0, none⟩ 1 1 [.string (s.extract fr k)] rfl rfl (new_cell _ _ _) (one_str _) (by unfold maxLen; omega) (by omega) (by have := hrow.out.2.size; simp; omega) ?_))
                    intro v' w1 hown hgrow _
                    have HR := Lib.hid (hrow.out.app (NM.tv_extract s fr k) hown hgrow)
                    clear hown hgrow
                    go_wp2
                    go_roundw
                    case rel => exact ⟨k + 1, k + 1, _, by omega, by omega, by rw [List.length_append, List.length_singleton]; omega, HW, by go_num, by go_num, HR⟩
                    case measure => simp [intOf]; omega
                  · have HW := Lib.hid (show NM.okb s[k] = true → NM.aok (s.data.toList.take (k + 1)) = true ∧ NM.ln s.data.toList (k + 1) = (acc, fr) from
                      fun h => ⟨by rw [NM.take_snoc s k hlt, NM.aok_snoc, hln.out.1, h]; rfl, by rw [NM.ln_no _ _ (by rw [NM.getD_eq s k hlt]; exact (NM.okb_not _ h10).2), hln.out.2]⟩)
                    have HB := Lib.hid (fun h => NM.l_bad _ HC.out (.inl (NM.aok_bad s k hlt h)))
                    have hn10 : ((s[k].toNat : Int) != 10) = true := by simpa using h10
                    have hq10 : ((s[k].toNat : Int) == 10) = false := by simpa using h10
                    by_cases h9 : (s[k].toNat : Int) = 9
                    · have HO := Lib.hid (HW.out (NM.okb_tab _ h9).1)
                      go_wp2
                      go_roundw
                      case rel => exact ⟨k + 1, fr, acc, by omega, by omega, by omega, HO, rfl, by go_num, hrow⟩
                      case measure => simp [intOf]; omega
                    · have hn9 : ((s[k].toNat : Int) != 9) = true := by simpa using h9
                      by_cases h32 : (s[k].toNat : Int) < 32
                      · have HO := Lib.hid (HB.out (NM.okb_out _ h10 h9 (.inl h32)))
                        go_wp2
                        go_ret2
                        exact RowE.mk (Row.fresh hrow.out.2) HO.out.2 HO.out.1
                      · by_cases h126 : 126 < (s[k].toNat : Int)
                        · have HO := Lib.hid (HB.out (NM.okb_out _ h10 h9 (.inr h126)))
                          have h32' : decide ((s[k].toNat : Int) < 32) = false := by simp only [decide_eq_false_iff_not]; omega
                          go_wp2
                          go_ret2
                          exact RowE.mk (Row.fresh hrow.out.2) HO.out.2 HO.out.1
                        · have HO := Lib.hid (HW.out (NM.okb_in _ h10 (by omega) (by omega)).1)
                          have h32' : decide ((s[k].toNat : Int) < 32) = false := by simp only [decide_eq_false_iff_not]; omega
                          have h126' : decide (126 < (s[k].toNat : Int)) = false := by simp only [decide_eq_false_iff_not]; omega
                          go_wp2
                          go_roundw
                          case rel => exact ⟨k + 1, fr, acc, by omega, by omega, by omega, HO, rfl, by go_num, hrow⟩
                          case measure => simp [intOf]; omega
                · obtain rfl : k = s.size := by omega
                  have hok := hln.out.1
                  rw [NM.take_all s _ (Nat.le_refl _)] at hok
                  have HB := Lib.hid (NM.l_ok _ HC.out hok (by rw [hlen.out]; exact HLA.out))
                  have HE := Lib.hid (show (NM.ln s.data.toList s.data.toList.length).1 = acc by rw [hlen.out, hln.out.2])
                  clear hok
                  go_wp2
                  go_ret2
                  exact RowE.mk hrow.out (by rw [HB.out.2, HE.out]) HB.out.1
            · have hl' : ((s[s.size - 1].toNat : Int) != 10) = true := by simpa using hl10
              have HO := Lib.hid (NM.l_bad _ HC.out (.inr (by rw [hlen.out]; exact HLL.out.mpr hl10)))
              go_wp2
              go_ret2
              exact RowE.mk (Row.start w) HO.out.2 HO.out.1
end Go.Proofs.YtcnmnkgnaknpdaaGreatDoor.S02
/-! S02WalkL -/
namespace Go.Proofs.YtcnmnkgnaknpdaaGreatDoor.S02
open Go.RowKit
theorem conv1 (w : World) (x : Int) (c : UInt8) (h : (c.toNat : Int) = x) :
    (convert 47 9 (.slice (some ⟨w.heap.size, 0, none⟩) 1 1)).run Tryz.prog (w.alloc (.cells #[.int .u8 x] 5)) = .ok (.string ⟨#[c]⟩) (w.alloc (.cells #[.int .u8 x] 5)) := by
  subst h
  exact run_convert_bytes_back (P := Tryz.prog) (w.alloc (.cells #[.int .u8 (c.toNat : Int)] 5)) 47 9 5 ⟨w.heap.size, 0, none⟩ 1 [c] Tryz.underlying47 Tryz.underlying5 Tryz.underlying9 (fun j hj => by
    match j, hj with
    | 0, _ => simp [Addr.add])
theorem ret_str {a b : ByteArray} (h : a.data.toList = b.data.toList) : Ending.returned (.string a) = .returned (.string b) := by
  have : a = b := by
    cases a; cases b
    simp only [ByteArray.mk.injEq]
    exact Array.toList_inj.mp h
  rw [this]
set_option maxHeartbeats 1600000 in
theorem rdec_any (n : Int) (w : World) (h0 : -9223372036854775808 ≤ n) (h1 : n ≤ 9223372036854775807) :
    Calls Tryz.prog 111 #[.int .i64 n] w fun e w' => e = .returned (.string ⟨(Lib.itoa n).toArray⟩) ∧ Below w.heap.size w w' := by
  by_cases hz : n = 0
  · subst hz
    go_enter Tryz.func111, Tryz.ntmps111
    go_wp2
    go_ret
    exact ⟨ret_str (by rw [NM.itoa_of 0 0 rfl, Lib.decDigits_one (by omega)]; rfl), Below.refl _ _⟩
  · have hz' : (n == 0) = false := by simpa using hz
    obtain ⟨m, hm⟩ : ∃ m : Nat, m = n.natAbs := ⟨_, rfl⟩
    by_cases hneg : n < 0
    · have hgt : decide (0 < n) = false := by simp only [decide_eq_false_iff_not]; omega
      have hmb : m < 18446744073709551616 := by omega
      have hmp : 0 < m := by omega
      have HI := Lib.hid (NM.itoa_of_neg n m (by omega) (by omega))
      have HM := Lib.hid hm
      go_enter Tryz.func111, Tryz.ntmps111
      go_wp2
      go_loopw [3, 4] (fun o x wr => ∃ (y : Int) (t : ByteArray), -9223372036854775808 ≤ y ∧ y ≤ 0 ∧ x = .int .i64 y ∧ o = .string t ∧ Hid (NM.Dst m y.natAbs t.data.toList) ∧ Hid (Below w.heap.size w wr)) (fun _ x _ => (intOf x).natAbs)
      case atStart => exact ⟨_, ⟨#[]⟩, by omega, by omega, rfl, rfl, Lib.hid (by first | (rw [← HM.out]; exact NM.Dst.start m hmp) | (rw [Int.natAbs_neg, ← HM.out]; exact NM.Dst.start m hmp)), Lib.hid (Below.refl _ _)⟩
      case round =>
        obtain ⟨y, t, hy1, hy2, rfl, rfl, hd, hb⟩ := hrel
        have hts : t.size ≤ 20 := by have := hd.out.len (by omega); rwa [NM.len_eq] at this
        by_cases hy0 : y = 0
        · subst hy0
          have HD := Lib.hid hd.out.done
          go_wp2
          go_ret
          exact ⟨ret_str (by rw [NM.data_app, HI.out, HD.out]; rfl), hb.out⟩
        · have hyn : (y == 0) = false := by simpa using hy0
          have hyn' : (y != 0) = true := by simpa using hy0
          obtain ⟨r, q, hmod, hdiv, hr0, hr1, hq0, hq1, hlt, hst⟩ := NM.neg_parts y hy1 hy2 hy0
          have HS := Lib.hid (show NM.Dst m q.natAbs (UInt8.ofNat (48 + r.toNat) :: t.data.toList) by
            have := hd.out.step (by omega)
            rw [hst.1, hst.2]; exact this)
          have hcv := conv1 wr (48 + r) (UInt8.ofNat (48 + r.toNat)) (by rw [NM.dig_toNat _ (by omega)]; omega)
          have HL := Lib.hid hlt
          clear hst hlt
          generalize UInt8.ofNat (48 + r.toNat) = c at *
          go_wp2
          go_roundw
          case rel =>
            refine ⟨q, _, hq0, hq1, rfl, rfl, ?_, Lib.hid (hb.out.alloc hb.out.size _)⟩
            rw [NM.data_app]
            exact HS
          case measure => simp [intOf]; exact HL.out
    · have hmb : m < 18446744073709551616 := by omega
      have hmp : 0 < m := by omega
      have hn0 : 0 < n := by omega
      have HI := Lib.hid (NM.itoa_of n m (by omega))
      have HM := Lib.hid hm
      have hneg' : decide (n < 0) = false := by simp only [decide_eq_false_iff_not]; omega
      go_enter Tryz.func111, Tryz.ntmps111
      go_wp2
      go_loopw [3, 4] (fun o x wr => ∃ (y : Int) (t : ByteArray), -9223372036854775808 ≤ y ∧ y ≤ 0 ∧ x = .int .i64 y ∧ o = .string t ∧ Hid (NM.Dst m y.natAbs t.data.toList) ∧ Hid (Below w.heap.size w wr)) (fun _ x _ => (intOf x).natAbs)
      case atStart => exact ⟨_, ⟨#[]⟩, by omega, by omega, rfl, rfl, Lib.hid (by first | (rw [← HM.out]; exact NM.Dst.start m hmp) | (rw [Int.natAbs_neg, ← HM.out]; exact NM.Dst.start m hmp)), Lib.hid (Below.refl _ _)⟩
      case round =>
        obtain ⟨y, t, hy1, hy2, rfl, rfl, hd, hb⟩ := hrel
        have hts : t.size ≤ 20 := by have := hd.out.len (by omega); rwa [NM.len_eq] at this
        by_cases hy0 : y = 0
        · subst hy0
          have HD := Lib.hid hd.out.done
          go_wp2
          go_ret
          exact ⟨ret_str (by rw [HI.out, HD.out]), hb.out⟩
        · have hyn : (y == 0) = false := by simpa using hy0
          have hyn' : (y != 0) = true := by simpa using hy0
          obtain ⟨r, q, hmod, hdiv, hr0, hr1, hq0, hq1, hlt, hst⟩ := NM.neg_parts y hy1 hy2 hy0
          have HS := Lib.hid (show NM.Dst m q.natAbs (UInt8.ofNat (48 + r.toNat) :: t.data.toList) by
            have := hd.out.step (by omega)
            rw [hst.1, hst.2]; exact this)
          have hcv := conv1 wr (48 + r) (UInt8.ofNat (48 + r.toNat)) (by rw [NM.dig_toNat _ (by omega)]; omega)
          have HL := Lib.hid hlt
          clear hst hlt
          generalize UInt8.ofNat (48 + r.toNat) = c at *
          go_wp2
          go_roundw
          case rel =>
            refine ⟨q, _, hq0, hq1, rfl, rfl, ?_, Lib.hid (hb.out.alloc hb.out.size _)⟩
            rw [NM.data_app]
            exact HS
          case measure => simp [intOf]; exact HL.out
set_option maxHeartbeats 1600000 in
theorem rhexs_any (u : Nat) (w : World) (h1 : u < 4294967296) :
    Calls Tryz.prog 33 #[.int .u32 u] w fun e w' => e = .returned (.string ⟨(NM.hxs u 8).toArray⟩) ∧ Below w.heap.size w w' := by
  go_enter Tryz.func33, Tryz.ntmps33
  go_wp2
  go_loopw [3, 4, 5] (fun o x i wr => ∃ (k y : Nat) (t : ByteArray), k ≤ 8 ∧ y < 4294967296 ∧ i = .int .i64 k ∧ x = .int .u32 y ∧ o = .string t ∧ Hid (y = u / 16 ^ k ∧ t.data.toList = NM.hxs u k) ∧ Hid (Below w.heap.size w wr)) (fun _ _ i _ => 8 - (intOf i).toNat)
  case atStart => exact ⟨0, u, ⟨#[]⟩, by omega, by omega, rfl, rfl, rfl, Lib.hid ⟨by simp, rfl⟩, Lib.hid (Below.refl _ _)⟩
  case round =>
    obtain ⟨k, y, t, hk, hy, rfl, rfl, rfl, hd, hb⟩ := hrel
    have hts : t.size ≤ 8 := by have := hd.out.2; have := congrArg List.length this; rw [NM.len_eq, NM.hxs_len] at this; omega
    by_cases hlt : k < 8
    · have hlt' : (k : Int) < 8 := by omega
      obtain ⟨d, hdd⟩ : ∃ d : Nat, d = y % 16 := ⟨_, rfl⟩
      have hd16 : d < 16 := by omega
      have hmod : (y : Int) % 16 = d := by omega
      obtain ⟨q, hqq⟩ : ∃ q : Nat, q = y / 16 := ⟨_, rfl⟩
      have hdiv : (y : Int) / 16 = q := by omega
      have hq : q < 4294967296 := by omega
      have HS := Lib.hid (show q = u / 16 ^ (k + 1) ∧ NM.hx d :: t.data.toList = NM.hxs u (k + 1) by
        refine ⟨by rw [hqq, hd.out.1, Nat.pow_succ, Nat.div_div_eq_div_mul], ?_⟩
        rw [NM.hxs, hd.out.2, hdd, hd.out.1])
      have hcv := conv1 wr ((NM.hx d).toNat : Int) (NM.hx d) rfl
      clear hdd hqq
      go_wp2_with (go_at_call 60; refine (rdigit_any d _ (by omega) (by omega)).mono ?_; rw [Int.toNat_natCast]; rintro e w' ⟨rfl, rfl⟩)
      go_roundw
      case rel =>
        refine ⟨k + 1, q, _, by omega, hq, by go_num, rfl, rfl, ?_, Lib.hid (hb.out.alloc hb.out.size _)⟩
        rw [NM.data_app]
        exact HS
      case measure => simp [intOf]; omega
    · obtain rfl : k = 8 := by omega
      go_wp2
      go_ret
      exact ⟨ret_str hd.out.2, hb.out⟩
end Go.Proofs.YtcnmnkgnaknpdaaGreatDoor.S02
/-! S02WalkM -/
namespace Go.Proofs.YtcnmnkgnaknpdaaGreatDoor.S02
open Go.RowKit
set_option maxHeartbeats 1600000 in
theorem tz64_16 (w : World) (hc : w.cell? ⟨4, 15, none⟩ = some (.int .u8 4)) : Calls Tryz.prog 169 #[.int .u64 16] w fun e w' => e = .returned (.int .i64 4) ∧ w = w' := by
  have e1 : IntKind.u64.wrap (-16) = 18446744073709551600 := by decide +kernel
  have e2 : bits .and .u64 16 18446744073709551600 = 16 := by decide +kernel
  have e3 : IntKind.u64.wrap (16 * 285870213051353865) = 4573923408821661840 := by decide +kernel
  go_enter Tryz.func169, Tryz.ntmps169
  go_wp2
  go_ret
  exact ⟨rfl, rfl⟩
theorem tz_16 (w : World) (hc : w.cell? ⟨4, 15, none⟩ = some (.int .u8 4)) : Calls Tryz.prog 146 #[.int .u64 16] w fun e w' => e = .returned (.int .i64 4) ∧ w = w' := by
  go_enter Tryz.func146, Tryz.ntmps146
  go_wp2_with (go_at_call 169; refine (tz64_16 _ hc).mono ?_; rintro e w' ⟨rfl, rfl⟩)
  go_ret
  exact ⟨rfl, rfl⟩
/-- The array's cells: noughts, then the digits that are written. -/
def zs (i : Nat) (acc : List UInt8) : Array Value := (List.replicate i (Value.int .u8 0) ++ acc.map fun (b : UInt8) => Value.int .u8 (b.toNat : Int)).toArray
def Arr (w wr : World) (i : Nat) (acc : List UInt8) : Prop := wr = w.alloc (.cells (zs i acc) 204)
theorem zs_size (i : Nat) (acc : List UInt8) : (zs i acc).size = i + acc.length := by simp [zs]
theorem zs_at (k : Nat) (acc : List UInt8) : (zs (k + 1) acc)[k]? = some (Value.int .u8 0) := by
  unfold zs
  rw [List.getElem?_toArray, List.getElem?_append_left (by simp)]
  simp
theorem zs_set (k : Nat) (acc : List UInt8) (c : UInt8) : (zs (k + 1) acc).setIfInBounds k (Value.int .u8 (c.toNat : Int)) = zs k (c :: acc) := by
  unfold zs
  apply Array.toList_inj.mp
  simp [List.replicate_succ']
theorem zs_tail (k : Nat) (acc : List UInt8) (j : Nat) (h : j < acc.length) : (zs k acc)[k + j]? = some (Value.int .u8 (acc[j].toNat : Int)) := by
  unfold zs
  rw [List.getElem?_toArray, List.getElem?_append_right (by simp)]
  simp [h]
theorem Arr.cell {w wr : World} {k : Nat} {acc : List UInt8} (h : Arr w wr (k + 1) acc) : wr.cell? ⟨w.heap.size, k, none⟩ = some (.int .u8 0) ∧ wr.frozen? ⟨w.heap.size, k, none⟩ = false := by
  subst h
  exact ⟨by rw [World.cell?_alloc_new]; exact zs_at k acc, World.frozen?_alloc_new _ _ _ _⟩
theorem Arr.put {w wr : World} {k : Nat} {acc : List UInt8} (h : Arr w wr (k + 1) acc) (c : UInt8) : Arr w (wr.setCell ⟨w.heap.size, k, none⟩ (.int .u8 (c.toNat : Int))) k (c :: acc) := by
  subst h
  unfold Arr
  rw [World.setCell_alloc_at _ _ _ _ _ rfl, zs_set]
theorem Arr.below {w wr : World} {k : Nat} {acc : List UInt8} (h : Arr w wr k acc) : Below w.heap.size w wr := by
  subst h
  exact (Below.refl _ _).alloc (Nat.le_refl _) _
theorem Arr.tail {w wr : World} {k : Nat} {acc : List UInt8} (h : Arr w wr k acc) (j : Nat) (hj : j < acc.length) : wr.cell? ((⟨w.heap.size, k, none⟩ : Addr).add j) = some (.int .u8 (acc[j].toNat : Int)) := by
  subst h
  rw [Lib.add_plain, World.cell?_alloc_new]
  exact zs_tail k acc j hj
theorem lit_fin : ∀ d : Fin 16, (({ data := #[48, 49, 50, 51, 52, 53, 54, 55, 56, 57, 97, 98, 99, 100, 101, 102, 103, 104, 105, 106, 107, 108, 109, 110, 111, 112, 113, 114, 115, 116, 117, 118, 119, 120, 121, 122] } : ByteArray)[d.val]'(by show d.val < 36; omega)).toNat = (NM.hx d.val).toNat := by decide
theorem lit_at (d : Nat) (h : d < 16) : (({ data := #[48, 49, 50, 51, 52, 53, 54, 55, 56, 57, 97, 98, 99, 100, 101, 102, 103, 104, 105, 106, 107, 108, 109, 110, 111, 112, 113, 114, 115, 116, 117, 118, 119, 120, 121, 122] } : ByteArray)[d]'(by show d < 36; omega)).toNat = (NM.hx d).toNat := lit_fin ⟨d, h⟩
theorem slice65 (W : World) (g k : Nat) (h : k < 65) : (Instr.sliceAt 204 (.pointer (some ⟨g, 0, none⟩)) (some (.int .i64 k)) none none).run Tryz.prog W = .ok (.slice (some ⟨g, k, none⟩) (65 - k) (65 - k)) W := by
  have hal : Tryz.prog.arrayLen 204 = 65 := by simp [Program.arrayLen, Tryz.underlying204]
  rw [run_sliceAt_array_l W 204 ⟨g, 0, none⟩ (by simp [Program.arrayLen, Program.elem, Tryz.underlying204]) .i64 (k : Int) (by omega) (by rw [hal]; omega), hal]
  go_simp
  omega
set_option maxHeartbeats 1600000 in
set_option maxRecDepth 100000 in
theorem fbits_16 (u : Nat) (w : World) (hu : u < 18446744073709551616) (hc : Hid (∀ o, (w.alloc o).cell? ⟨4, 15, none⟩ = some (.int .u8 4))) :
    Calls Tryz.prog 115 #[.slice none 0 0, .int .u64 u, .int .i64 16, .bool false, .bool false] w fun e w' => e = .returned (.tuple #[.slice none 0 0, .string ⟨(NM.hd u).toArray⟩]) ∧ Below w.heap.size w w' := by
  have hul := Lib.hid (NM.hd_fill 16 u (by simpa using hu) (by omega)).1
  go_enter Tryz.func115, Tryz.ntmps115
  go_wp2_with (first
    | (go_at_call 145; refine (pow2_16 _).mono ?_; rintro e w' ⟨rfl, rfl⟩)
    | (go_at_call 146; refine (tz_16 _ (hc.out _)).mono ?_; rintro e w' ⟨rfl, rfl⟩))
  go_loopw [1, 13] (fun x i wr => ∃ (k v : Nat) (acc : List UInt8), k + 1 + acc.length = 65 ∧ v < 18446744073709551616 ∧ x = .int .u64 v ∧ i = .int .i64 (k + 1 : Nat) ∧ Hid (NM.Hst u v acc ∧ Arr w wr (k + 1) acc)) (fun x _ _ => (intOf x).toNat)
  case atStart => exact ⟨64, u, [], rfl, hu, rfl, rfl, Lib.hid ⟨by unfold NM.Hst; simp, rfl⟩⟩
  case round =>
    obtain ⟨k, v, acc, hk, hv, rfl, rfl, hst⟩ := hrel
    have hal : acc.length ≤ 15 := by
      have h1 := congrArg List.length hst.out.1
      rw [List.length_append] at h1
      have h2 := NM.hd_len_pos v
      have h3 := hul.out
      omega
    have hce := hst.out.2.cell.1
    have hfr := hst.out.2.cell.2
    by_cases h16 : 16 ≤ v
    · obtain ⟨k, rfl⟩ : ∃ j, k = j + 1 := ⟨k - 1, by omega⟩
      have hand := NM.and15 v hv
      have hdm : v % 16 < 16 := Nat.mod_lt _ (by omega)
      have hlit := lit_at _ hdm
      have HS := Lib.hid (And.intro (hst.out.1.step h16) (hst.out.2.put (NM.hx (v % 16))))
      generalize v % 16 = d at *
      go_wp2
      go_roundw
      case rel => exact ⟨k, v / 16, _, by rw [List.length_cons]; omega, by omega, by go_num, by go_num, HS⟩
      case measure => simp [intOf]; omega
    · have hlit := lit_at v (by omega)
      have HS := Lib.hid (And.intro (hst.out.1.done (by omega)) (hst.out.2.put (NM.hx v)))
      have hv16 : decide (16 ≤ (v : Int)) = false := by simp only [decide_eq_false_iff_not]; omega
      have hv36 : (v : Int) < 36 := by omega
      have hcv : (convert 47 9 (.slice (some ⟨w.heap.size, k, none⟩) (65 - k) (65 - k))).run Tryz.prog (wr.setCell ⟨w.heap.size, k, none⟩ (.int .u8 ((NM.hx v).toNat : Int))) = .ok (.string ⟨(NM.hd u).toArray⟩) (wr.setCell ⟨w.heap.size, k, none⟩ (.int .u8 ((NM.hx v).toNat : Int))) := by
        have h := run_convert_bytes_back (P := Tryz.prog) (wr.setCell ⟨w.heap.size, k, none⟩ (.int .u8 ((NM.hx v).toNat : Int))) 47 9 5 ⟨w.heap.size, k, none⟩ (65 - k) (NM.hx v :: acc) Tryz.underlying47 Tryz.underlying5 Tryz.underlying9 (fun j hj => HS.out.2.tail j hj)
        rw [List.length_cons, show acc.length + 1 = 65 - k by omega, HS.out.1] at h
        exact h
      have hsl := fun W => slice65 W w.heap.size k (by omega)
      go_wp2
      go_ret2
      exact ⟨rfl, HS.out.2.below⟩
end Go.Proofs.YtcnmnkgnaknpdaaGreatDoor.S02
/-! S02WalkN -/
namespace Go.Proofs.YtcnmnkgnaknpdaaGreatDoor.S02
open Go.RowKit
/-- The library's tables read as their texts lay them. -/
def Tabs (w : World) : Prop := Lib.TabIs Tryz.prog w "internal/strconv.uint64pow10" .u64 Lib.pow10Tab ∧ w.cell? ⟨4, 15, none⟩ = some (.int .u8 4)
theorem lt_of_cell {w : World} {p : Addr} {v : Value} (h : w.cell? p = some v) : p.block < w.heap.size := by
  rcases Nat.lt_or_ge p.block w.heap.size with h1 | h1
  · exact h1
  · simp [World.cell?, Array.getElem?_eq_none h1] at h
theorem Tabs.on {w w' : World} (h : Tabs w) (hb : Below w.heap.size w w') : Tabs w' :=
  ⟨Joins.tab_stays (g := 2) (by kernel_rfl) h.1 hb (Nat.le_refl _), (hb.cell (lt_of_cell h.2)).trans h.2⟩
theorem Tabs.new {w : World} (h : Tabs w) : ∀ o, (w.alloc o).cell? ⟨4, 15, none⟩ = some (.int .u8 4) := fun o =>
  (World.cell?_alloc_lt w o _ (lt_of_cell h.2)).trans h.2
theorem dec_any (n : Int) (w : World) (h0 : -9223372036854775808 ≤ n) (h1 : n ≤ 9223372036854775807) (ht : Tabs w) :
    Calls Tryz.prog 19 #[.int .i64 n] w fun e w' => e = .returned (.string ⟨(Lib.itoa n).toArray⟩) ∧ Below w.heap.size w w' := by
  have HT := Lib.hid ht.1
  clear ht
  go_enter Tryz.func19, Tryz.ntmps19
  go_wp2_with (go_at_call 42; refine (Tryz.strconv_FormatInt_10 n h0 h1 _ HT.out).mono ?_; rintro e w' ⟨rfl, k, os, rfl⟩)
  go_ret
  exact ⟨rfl, Lib.below_grow _ _ (Nat.le_refl _) _ _⟩
theorem fuint_16 (u : Nat) (w : World) (hu : u < 18446744073709551616) (ht : Tabs w) :
    Calls Tryz.prog 73 #[.int .u64 u, .int .i64 16] w fun e w' => e = .returned (.string ⟨(NM.hd u).toArray⟩) ∧ Below w.heap.size w w' := by
  have HT := Lib.hid ht.new
  clear ht
  go_enter Tryz.func73, Tryz.ntmps73
  go_wp2_with (go_at_call 115; refine (fbits_16 u _ hu HT).mono ?_; rintro e w' ⟨rfl, hb⟩)
  go_ret
  exact ⟨rfl, hb⟩
theorem sfuint_16 (u : Nat) (w : World) (hu : u < 18446744073709551616) (ht : Tabs w) :
    Calls Tryz.prog 43 #[.int .u64 u, .int .i64 16] w fun e w' => e = .returned (.string ⟨(NM.hd u).toArray⟩) ∧ Below w.heap.size w w' := by
  have HT := Lib.hid ht
  clear ht
  go_enter Tryz.func43, Tryz.ntmps43
  go_wp2_with (go_at_call 73; refine (fuint_16 u _ hu HT.out).mono ?_; rintro e w' ⟨rfl, hb⟩)
  go_ret
  exact ⟨rfl, hb⟩
set_option maxHeartbeats 800000 in
theorem hex_any (u : Nat) (w : World) (hu : u < 4294967296) (ht : Tabs w) :
    Calls Tryz.prog 20 #[.int .u32 u] w fun e w' => e = .returned (.string ⟨(NM.hxs u 8).toArray⟩) ∧ Below w.heap.size w w' := by
  have HT := Lib.hid ht
  clear ht
  obtain ⟨hl, hf⟩ := NM.hd_fill 8 u (by simpa using hu) (by omega)
  obtain ⟨t, htt⟩ : ∃ t : ByteArray, (⟨(NM.hd u).toArray⟩ : ByteArray) = t := ⟨_, rfl⟩
  have htl : t.data.toList = NM.hd u := by rw [← htt]
  have hts : t.size ≤ 8 := by rw [← NM.len_eq, htl]; exact hl
  have HF := Lib.hid (show NM.hxs u 8 = Lib.repeatL [48] (8 - t.size) ++ t.data.toList by rw [hf, NM.rep_eq, htl, ← NM.len_eq t, htl])
  have hrl : (⟨(Lib.repeatL [48] (8 - t.size)).toArray⟩ : ByteArray).size ≤ 8 := by
    show (Lib.repeatL [48] (8 - t.size)).toArray.size ≤ 8
    rw [NM.rep_eq]; simp
  have HTT := Lib.hid htt
  clear htt htl hf hl
  go_enter Tryz.func20, Tryz.ntmps20
  go_wp2_with (go_at_call 43; refine (sfuint_16 u _ (by omega) HT.out).mono ?_; rw [HTT.out]; rintro e w1 ⟨rfl, hb1⟩; refine Hid.out ?_)
  refine Lib.hid ?_
  have HB1 := Lib.hid hb1
  clear hb1
  go_wp2_with (go_at_call 44; rw [show (8 : Int) - (t.size : Int) = ((8 - t.size : Nat) : Int) by omega]; refine (Tryz.strings_Repeat ⟨#[48]⟩ (8 - t.size) _ (by omega) (by show 1 * _ ≤ _; omega)).mono ?_; rintro e w2 ⟨rfl, hb2⟩)
  go_ret
  exact ⟨ret_str (by rw [NM.data_app]; exact HF.out.symm), HB1.out.trans (hb2.mono HB1.out.size)⟩
theorem ex_hex : NM.pN [48, 120, 49, 102] = 31 ∧ NM.pE [48, 120, 49, 102] = 0 := by decide +kernel
theorem ex_007 : NM.pE [48, 48, 55] = 2 := by decide +kernel
theorem ex_dec : (⟨(Lib.itoa (-40)).toArray⟩ : ByteArray) = ⟨#[45, 52, 48]⟩ := by
  rw [NM.itoa_of_neg (-40) 40 rfl (by omega), Lib.decDigits_two (by omega) (by omega)]
  rfl
theorem ex_beef : (⟨(NM.hxs 48879 8).toArray⟩ : ByteArray) = ⟨#[48, 48, 48, 48, 98, 101, 101, 102]⟩ := by
  rw [show NM.hxs 48879 8 = [48, 48, 48, 48, 98, 101, 101, 102] by decide +kernel]
theorem ex_words : (NM.wd [97, 100, 100, 32, 114, 49, 44, 32, 114, 50]).length = 3 := by decide +kernel
theorem Row.three {w w' : World} {v : Value} {acc : List (List UInt8)} (h : Row w w' v acc) (h3 : acc.length = 3) : ∃ a c, v = .slice a 3 c := by
  have h1 := h.1
  rw [h3] at h1
  rcases own_open h1 with ⟨h0, _⟩ | ⟨g, c, rfl, _⟩
  · omega
  · exact ⟨_, _, rfl⟩
end Go.Proofs.YtcnmnkgnaknpdaaGreatDoor.S02
