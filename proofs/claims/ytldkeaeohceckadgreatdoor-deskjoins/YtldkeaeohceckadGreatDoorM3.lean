/- Bound together for a claim. -/
import Derived.Test.YtldkeaeohceckadGreatDoorM2
import Derived.Shelf.LaysM
import Derived.Shelf.LaysC
import Derived.Shelf.Strings.OnBuilder
import Derived.Shelf.Strings.Trim
import Derived.Shelf.Small.Wraps
import Derived.Shelf.Strconv.Itoa3
import Derived.Shelf.Strconv.AtoiAll
import Derived.Shelf.Strings.Search3
import Derived.Shelf.Strings.Cut
import Derived.Test.YtldkeaeohceckadGreatDoorProg
import Derived.Lib.SmallJoins
import Derived.Test.YtldkeaeohceckadGreatDoorRows
import Derived.Lib.LaidTab
import Derived.Stop.LaidErr
import Derived.Shelf.Vars
import Derived.OpenShut
import Derived.ProofKit
import Derived.LaidLaws
import Derived.SliceStrings
import Derived.SizedLaws
import Derived.Deep.Slices
/-
  DERIVED: THE SHELF's CONTRACTS AT THIS DUMP, IN PLAIN WORDS (tools/lay-plain.mjs out of 'TryzShelf.lean', which tools/lay-shelf.mjs wrote): THE SAME DECLARATIONS UNDER THE SAME NAMES: 'import', 'namespace', 'open', 'def', 'theorem' AND NOTHING ELSE: no command of the shelf's: FOR A HAND-IN. Each laying: the table of numbers ('.._ren') and one theorem, a field a fact of the dump's own or the kernel's comparison; each contract: ONE APPLICATION.
-/
namespace Go.Proofs
open Go.Shelf
def Tryz.lays156_ren : Go.Shelf.Ren := ⟨fun | 156 => 48 | 165 => 83 | 166 => 47 | 169 => 16 | 240 => 82 | 241 => 118 | 276 => 117 | 277 => 150 | n => n, fun | 31 => 22 | 9 => 9 | 3 => 3 | 4 => 4 | 0 => 0 | 20 => 20 | 72 => 44 | 76 => 91 | 70 => 41 | 37 => 42 | 75 => 90 | 127 => 85 | 164 => 186 | 5 => 5 | 80 => 52 | n => n, fun | n => n⟩
theorem Tryz.lays156 : Go.Proofs.Lays.n156 Tryz.prog Tryz.lays156_ren := {
  mixed := by kernel_rfl
  f156 := Tryz.func48.trans (congrArg some (by kernel_rfl))
  f165 := Tryz.func83.trans (congrArg some (by kernel_rfl))
  f166 := Tryz.func47.trans (congrArg some (by kernel_rfl))
  f169 := Tryz.func16.trans (congrArg some (by kernel_rfl))
  f240 := Tryz.func82.trans (congrArg some (by kernel_rfl))
  f241 := Tryz.func118.trans (congrArg some (by kernel_rfl))
  f276 := Tryz.func117.trans (congrArg some (by kernel_rfl))
  f277 := Tryz.func150.trans (congrArg some (by kernel_rfl))
  t0 := Tryz.underlying0
  a0 := Tryz.isAgg0
  z0 := Tryz.sizeOf0
  v0 := Tryz.zeroValue0
  t3 := Tryz.underlying3
  a3 := Tryz.isAgg3
  z3 := Tryz.sizeOf3
  v3 := Tryz.zeroValue3
  t4 := Tryz.underlying4
  a4 := Tryz.isAgg4
  z4 := Tryz.sizeOf4
  v4 := Tryz.zeroValue4
  t9 := Tryz.underlying9
  a9 := Tryz.isAgg9
  z9 := Tryz.sizeOf9
  v9 := Tryz.zeroValue9
  t20 := Tryz.underlying20
  a20 := Tryz.isAgg20
  z20 := Tryz.sizeOf20
  v20 := Tryz.zeroValue20
  t31 := Tryz.underlying22
  a31 := Tryz.isAgg22
  z31 := Tryz.sizeOf22
  v31 := Tryz.zeroValue22
  t37 := Tryz.underlying42
  a37 := Tryz.isAgg42
  z37 := Tryz.sizeOf42
  v37 := Tryz.zeroValue42
  t70 := Tryz.underlying41
  a70 := Tryz.isAgg41
  z70 := Tryz.sizeOf41
  v70 := Tryz.zeroValue41
  t72 := Tryz.underlying44
  a72 := Tryz.isAgg44
  z72 := Tryz.sizeOf44
  v72 := Tryz.zeroValue44
  t75 := Tryz.underlying90
  a75 := Tryz.isAgg90
  z75 := Tryz.sizeOf90
  v75 := Tryz.zeroValue90
  t76 := Tryz.underlying91
  a76 := Tryz.isAgg91
  z76 := Tryz.sizeOf91
  v76 := Tryz.zeroValue91
  t127 := Tryz.underlying85
  a127 := Tryz.isAgg85
  z127 := Tryz.sizeOf85
  v127 := Tryz.zeroValue85
  t164 := Tryz.underlying186
  a164 := Tryz.isAgg186
  z164 := Tryz.sizeOf186
  v164 := Tryz.zeroValue186 }
theorem Tryz.Builder_Extra_156 : Builder.Extra Tryz.prog Tryz.lays156_ren := {
  sizeBuilder := by kernel_rfl
  liesBuilder := by kernel_rfl
  t5 := Tryz.underlying5
  a5 := Tryz.isAgg5
  z5 := Tryz.sizeOf5
  v5 := Tryz.zeroValue5
  infoByte := by kernel_rfl
  cellsByte := by kernel_rfl
  sizeByte := by kernel_rfl
  neB5 := by decide }
open Go.RowKit in
theorem Tryz.strings_Join_none (a : Option Addr) (c : Nat) (sep : ByteArray) (w : World) :
    Calls Tryz.prog 48 #[.slice a 0 c, .string sep] w fun e w' => e = .returned (.string ⟨#[]⟩) ∧ w' = w := Any.strings_Join_none Tryz.lays156 Tryz.Builder_Extra_156 a c sep w
open Go.RowKit in
theorem Tryz.strings_Join (bk o c : Nat) (xs : List ByteArray) (sep : ByteArray) (w : World) (hcells : ∀ (j : Nat) x, xs[j]? = some x → w.cell? ⟨bk, o + j, none⟩ = some (.string x)) (hbk : bk < w.heap.size) (hN : xs.length ≤ 140737488355328) (hcap : xs.length ≤ c) (hlen : (Lib.join (xs.map (·.data.toList)) sep.data.toList).length ≤ 140737488355328) :
    Calls Tryz.prog 48 #[.slice (some ⟨bk, o, none⟩) xs.length c, .string sep] w fun e w' => e = .returned (.string ⟨(Lib.join (xs.map (·.data.toList)) sep.data.toList).toArray⟩) ∧ Below w.heap.size w w' := Any.strings_Join Tryz.lays156 Tryz.Builder_Extra_156 bk o c xs sep w hcells hbk hN hcap hlen
def Tryz.lays161_ren : Go.Shelf.Ren := ⟨fun | 161 => 45 | 231 => 77 | 227 => 78 | 233 => 79 | 235 => 80 | 228 => 114 | 197 => 115 | 151 => 116 | 260 => 148 | 152 => 149 | 137 => 175 | 119 => 176 | 224 => 112 | 225 => 111 | 217 => 110 | 266 => 146 | n => n, fun | 9 => 9 | 4 => 4 | 3 => 3 | 5 => 5 | 117 => 150 | 116 => 149 | 0 => 0 | 124 => 153 | 105 => 183 | 21 => 21 | 119 => 239 | 46 => 37 | 139 => 242 | 138 => 241 | n => n, fun | 3 => 5 | 4 => 6 | n => n⟩
theorem Tryz.lays161 : Go.Proofs.Lays.n161 Tryz.prog Tryz.lays161_ren := {
  mixed := by kernel_rfl
  f119 := Tryz.func176.trans (congrArg some (by kernel_rfl))
  f137 := Tryz.func175.trans (congrArg some (by kernel_rfl))
  f151 := Tryz.func116.trans (congrArg some (by kernel_rfl))
  f152 := Tryz.func149.trans (congrArg some (by kernel_rfl))
  f161 := Tryz.func45.trans (congrArg some (by kernel_rfl))
  f197 := Tryz.func115.trans (congrArg some (by kernel_rfl))
  f217 := Tryz.func110.trans (congrArg some (by kernel_rfl))
  f224 := Tryz.func112.trans (congrArg some (by kernel_rfl))
  f225 := Tryz.func111.trans (congrArg some (by kernel_rfl))
  f227 := Tryz.func78.trans (congrArg some (by kernel_rfl))
  f228 := Tryz.func114.trans (congrArg some (by kernel_rfl))
  f231 := Tryz.func77.trans (congrArg some (by kernel_rfl))
  f233 := Tryz.func79.trans (congrArg some (by kernel_rfl))
  f235 := Tryz.func80.trans (congrArg some (by kernel_rfl))
  f260 := Tryz.func148.trans (congrArg some (by kernel_rfl))
  f266 := Tryz.func146.trans (congrArg some (by kernel_rfl))
  t0 := Tryz.underlying0
  a0 := Tryz.isAgg0
  z0 := Tryz.sizeOf0
  v0 := Tryz.zeroValue0
  t3 := Tryz.underlying3
  a3 := Tryz.isAgg3
  z3 := Tryz.sizeOf3
  v3 := Tryz.zeroValue3
  t4 := Tryz.underlying4
  a4 := Tryz.isAgg4
  z4 := Tryz.sizeOf4
  v4 := Tryz.zeroValue4
  t5 := Tryz.underlying5
  a5 := Tryz.isAgg5
  z5 := Tryz.sizeOf5
  v5 := Tryz.zeroValue5
  t9 := Tryz.underlying9
  a9 := Tryz.isAgg9
  z9 := Tryz.sizeOf9
  v9 := Tryz.zeroValue9
  t21 := Tryz.underlying21
  a21 := Tryz.isAgg21
  z21 := Tryz.sizeOf21
  v21 := Tryz.zeroValue21
  t46 := Tryz.underlying37
  a46 := Tryz.isAgg37
  z46 := Tryz.sizeOf37
  v46 := Tryz.zeroValue37
  t105 := Tryz.underlying183
  a105 := Tryz.isAgg183
  z105 := Tryz.sizeOf183
  v105 := Tryz.zeroValue183
  t116 := Tryz.underlying149
  a116 := Tryz.isAgg149
  z116 := Tryz.sizeOf149
  t117 := Tryz.underlying150
  a117 := Tryz.isAgg150
  z117 := Tryz.sizeOf150
  v117 := Tryz.zeroValue150
  t119 := Tryz.underlying239
  a119 := Tryz.isAgg239
  z119 := Tryz.sizeOf239
  t124 := Tryz.underlying153
  a124 := Tryz.isAgg153
  z124 := Tryz.sizeOf153
  v124 := Tryz.zeroValue153
  t138 := Tryz.underlying241
  a138 := Tryz.isAgg241
  z138 := Tryz.sizeOf241
  v138 := Tryz.zeroValue241
  t139 := Tryz.underlying242
  a139 := Tryz.isAgg242
  z139 := Tryz.sizeOf242
  v139 := Tryz.zeroValue242
  g3 := by kernel_rfl
  g4 := by kernel_rfl }
open Go.RowKit in
theorem Tryz.strings_TrimLeft_one (s : ByteArray) (c : UInt8) (hc : c.toNat < 128) (w : World) :
    Calls Tryz.prog 45 #[.string s, .string ⟨#[c]⟩] w fun e w' => e = .returned (.string ⟨(Lib.trimLeftB s.data.toList c).toArray⟩) ∧ w' = w := Any.strings_TrimLeft_one Tryz.lays161 s c hc w
def Tryz.lays103_ren : Go.Shelf.Ren := ⟨fun | 103 => 123 | 210 => 156 | 206 => 179 | n => n, fun | 9 => 9 | 4 => 4 | 24 => 87 | 3 => 3 | n => n, fun | n => n⟩
theorem Tryz.lays103 : Go.Proofs.Lays.n103 Tryz.prog Tryz.lays103_ren := {
  mixed := by kernel_rfl
  f103 := Tryz.func123.trans (congrArg some (by kernel_rfl))
  f206 := Tryz.func179.trans (congrArg some (by kernel_rfl))
  f210 := Tryz.func156.trans (congrArg some (by kernel_rfl))
  t3 := Tryz.underlying3
  a3 := Tryz.isAgg3
  z3 := Tryz.sizeOf3
  v3 := Tryz.zeroValue3
  t4 := Tryz.underlying4
  a4 := Tryz.isAgg4
  z4 := Tryz.sizeOf4
  v4 := Tryz.zeroValue4
  t9 := Tryz.underlying9
  a9 := Tryz.isAgg9
  z9 := Tryz.sizeOf9
  v9 := Tryz.zeroValue9
  t24 := Tryz.underlying87
  a24 := Tryz.isAgg87
  z24 := Tryz.sizeOf87
  v24 := Tryz.zeroValue87 }
open Go.RowKit in
theorem Tryz.strings_CutPrefix (s p : ByteArray) (w : World) :
    Calls Tryz.prog 123 #[.string s, .string p] w fun e w' => e = .returned (.tuple #[.string ⟨(Lib.trimPrefix s.data.toList p.data.toList).toArray⟩, .bool (Lib.hasPrefix s.data.toList p.data.toList)]) ∧ w' = w := Any.strings_CutPrefix Tryz.lays103 s p w
def Tryz.laysM171_ren : Go.Shelf.Ren := ⟨fun | 171 => 25 | 243 => 49 | 246 => 84 | 283 => 119 | 284 => 120 | 285 => 121 | 286 => 122 | 129 => 152 | 317 => 151 | 318 => 153 | 319 => 154 | 320 => 155 | 337 => 177 | 338 => 178 | n => n, fun | 3 => 3 | 9 => 9 | 2 => 2 | 4 => 4 | 171 => 188 | 0 => 0 | 53 => 189 | 37 => 42 | 5 => 5 | 173 => 192 | 212 => 219 | 51 => 213 | 20 => 20 | 213 => 220 | 46 => 37 | 232 => 249 | 233 => 250 | n => n, fun | 17 => 4 | 18 => 7 | 19 => 8 | n => n⟩
theorem Tryz.laysM171 : Go.Proofs.LaysM.n171 Tryz.prog Tryz.laysM171_ren := {
  mixed := by kernel_rfl
  f129 := Tryz.func152.trans (congrArg some (by kernel_rfl))
  f171 := Tryz.func25.trans (congrArg some (by kernel_rfl))
  f243 := Tryz.func49.trans (congrArg some (by kernel_rfl))
  f246 := Tryz.func84.trans (congrArg some (by kernel_rfl))
  f283 := Tryz.func119.trans (congrArg some (by kernel_rfl))
  f284 := Tryz.func120.trans (congrArg some (by kernel_rfl))
  f285 := Tryz.func121.trans (congrArg some (by kernel_rfl))
  f286 := Tryz.func122.trans (congrArg some (by kernel_rfl))
  f317 := Tryz.func151.trans (congrArg some (by kernel_rfl))
  f318 := Tryz.func153.trans (congrArg some (by kernel_rfl))
  f319 := Tryz.func154.trans (congrArg some (by kernel_rfl))
  f320 := Tryz.func155.trans (congrArg some (by kernel_rfl))
  f337 := Tryz.func177.trans (congrArg some (by kernel_rfl))
  f338 := Tryz.func178.trans (congrArg some (by kernel_rfl))
  t0 := Tryz.underlying0
  a0 := Tryz.isAgg0
  z0 := Tryz.sizeOf0
  v0 := Tryz.zeroValue0
  t2 := Tryz.underlying2
  a2 := Tryz.isAgg2
  z2 := Tryz.sizeOf2
  v2 := Tryz.zeroValue2
  t3 := Tryz.underlying3
  a3 := Tryz.isAgg3
  z3 := Tryz.sizeOf3
  v3 := Tryz.zeroValue3
  t4 := Tryz.underlying4
  a4 := Tryz.isAgg4
  z4 := Tryz.sizeOf4
  v4 := Tryz.zeroValue4
  t5 := Tryz.underlying5
  a5 := Tryz.isAgg5
  z5 := Tryz.sizeOf5
  v5 := Tryz.zeroValue5
  t9 := Tryz.underlying9
  a9 := Tryz.isAgg9
  z9 := Tryz.sizeOf9
  v9 := Tryz.zeroValue9
  t20 := Tryz.underlying20
  a20 := Tryz.isAgg20
  z20 := Tryz.sizeOf20
  v20 := Tryz.zeroValue20
  t37 := Tryz.underlying42
  a37 := Tryz.isAgg42
  z37 := Tryz.sizeOf42
  v37 := Tryz.zeroValue42
  t46 := Tryz.underlying37
  a46 := Tryz.isAgg37
  z46 := Tryz.sizeOf37
  v46 := Tryz.zeroValue37
  t51 := Tryz.underlying213
  a51 := Tryz.isAgg213
  z51 := Tryz.sizeOf213
  v51 := Tryz.zeroValue213
  t53 := Tryz.underlying189
  a53 := Tryz.isAgg189
  z53 := Tryz.sizeOf189
  v53 := Tryz.zeroValue189
  t171 := Tryz.underlying188
  a171 := Tryz.isAgg188
  z171 := Tryz.sizeOf188
  v171 := Tryz.zeroValue188
  t173 := Tryz.underlying192
  a173 := Tryz.isAgg192
  z173 := Tryz.sizeOf192
  v173 := Tryz.zeroValue192
  t212 := Tryz.underlying219
  a212 := Tryz.isAgg219
  z212 := Tryz.sizeOf219
  v212 := Tryz.zeroValue219
  t213 := Tryz.underlying220
  a213 := Tryz.isAgg220
  z213 := Tryz.sizeOf220
  t232 := Tryz.underlying249
  a232 := Tryz.isAgg249
  z232 := Tryz.sizeOf249
  v232 := Tryz.zeroValue249
  t233 := Tryz.underlying250
  a233 := Tryz.isAgg250
  z233 := Tryz.sizeOf250
  v233 := Tryz.zeroValue250
  g17 := by kernel_rfl
  g18 := by kernel_rfl
  g19 := by kernel_rfl
  i0 := by kernel_rfl
  i2 := by kernel_rfl
  i3 := by kernel_rfl
  i4 := by kernel_rfl
  i5 := by kernel_rfl
  i9 := by kernel_rfl
  i20 := by kernel_rfl
  i37 := by kernel_rfl
  i46 := by kernel_rfl
  i51 := by kernel_rfl
  i53 := by kernel_rfl
  i171 := by kernel_rfl
  i173 := by kernel_rfl
  i212 := by kernel_rfl
  i232 := by kernel_rfl
  i233 := by kernel_rfl
  m17 := by kernel_rfl
  m18 := by kernel_rfl
  m19 := by kernel_rfl }
open Go.RowKit Go.Sort Go.Lib in
theorem Tryz.strconv_Itoa (n : Int) (h0 : -9223372036854775808 ≤ n) (h1 : n ≤ 9223372036854775807) (w : World) (htab : Lib.TabIs Tryz.prog w "internal/strconv.uint64pow10" .u64 Lib.pow10Tab) :
    Calls Tryz.prog 25 #[.int .i64 n] w fun e w' => e = .returned (.string ⟨(Lib.itoa n).toArray⟩) ∧ ∃ k os, w' = grow (w.drewN k) os := Any.strconv_Itoa Tryz.laysM171 n h0 h1 w htab
def Tryz.laysC172_ren : Go.Shelf.Ren := ⟨fun | 172 => 35 | 244 => 61 | 245 => 62 | 247 => 94 | 279 => 95 | 280 => 96 | 281 => 97 | 282 => 98 | 287 => 139 | 316 => 140 | 171 => 25 | 205 => 141 | 321 => 173 | 322 => 174 | 243 => 49 | 246 => 84 | 283 => 119 | 284 => 120 | 285 => 121 | 286 => 122 | 129 => 152 | 317 => 151 | 318 => 153 | 319 => 154 | 320 => 155 | 337 => 177 | 338 => 178 | n => n, fun | 9 => 9 | 3 => 3 | 75 => 90 | 76 => 91 | 4 => 4 | 5 => 5 | 167 => 166 | 37 => 42 | 0 => 0 | 85 => 167 | 2 => 2 | 168 => 169 | 53 => 189 | 175 => 206 | 46 => 37 | 210 => 209 | 127 => 85 | 145 => 238 | 143 => 236 | 21 => 21 | 171 => 188 | 173 => 192 | 212 => 219 | 51 => 213 | 20 => 20 | 213 => 220 | 232 => 249 | 233 => 250 | 80 => 52 | n => n, fun | 15 => 2 | 16 => 3 | 17 => 4 | 18 => 7 | 19 => 8 | n => n⟩
theorem Tryz.laysC172 : Go.Proofs.LaysC.n172 Tryz.prog Tryz.laysC172_ren := {
  mixed := by kernel_rfl
  f129 := Tryz.func152.trans (congrArg some (by kernel_rfl))
  f171 := Tryz.func25.trans (congrArg some (by kernel_rfl))
  f172 := Tryz.func35.trans (congrArg some (by kernel_rfl))
  f205 := Tryz.func141.trans (congrArg some (by kernel_rfl))
  f243 := Tryz.func49.trans (congrArg some (by kernel_rfl))
  f244 := Tryz.func61.trans (congrArg some (by kernel_rfl))
  f245 := Tryz.func62.trans (congrArg some (by kernel_rfl))
  f246 := Tryz.func84.trans (congrArg some (by kernel_rfl))
  f247 := Tryz.func94.trans (congrArg some (by kernel_rfl))
  f279 := Tryz.func95.trans (congrArg some (by kernel_rfl))
  f280 := Tryz.func96.trans (congrArg some (by kernel_rfl))
  f281 := Tryz.func97.trans (congrArg some (by kernel_rfl))
  f282 := Tryz.func98.trans (congrArg some (by kernel_rfl))
  f283 := Tryz.func119.trans (congrArg some (by kernel_rfl))
  f284 := Tryz.func120.trans (congrArg some (by kernel_rfl))
  f285 := Tryz.func121.trans (congrArg some (by kernel_rfl))
  f286 := Tryz.func122.trans (congrArg some (by kernel_rfl))
  f287 := Tryz.func139.trans (congrArg some (by kernel_rfl))
  f316 := Tryz.func140.trans (congrArg some (by kernel_rfl))
  f317 := Tryz.func151.trans (congrArg some (by kernel_rfl))
  f318 := Tryz.func153.trans (congrArg some (by kernel_rfl))
  f319 := Tryz.func154.trans (congrArg some (by kernel_rfl))
  f320 := Tryz.func155.trans (congrArg some (by kernel_rfl))
  f321 := Tryz.func173.trans (congrArg some (by kernel_rfl))
  f322 := Tryz.func174.trans (congrArg some (by kernel_rfl))
  f337 := Tryz.func177.trans (congrArg some (by kernel_rfl))
  f338 := Tryz.func178.trans (congrArg some (by kernel_rfl))
  t0 := Tryz.underlying0
  a0 := Tryz.isAgg0
  z0 := Tryz.sizeOf0
  v0 := Tryz.zeroValue0
  t2 := Tryz.underlying2
  a2 := Tryz.isAgg2
  z2 := Tryz.sizeOf2
  v2 := Tryz.zeroValue2
  t3 := Tryz.underlying3
  a3 := Tryz.isAgg3
  z3 := Tryz.sizeOf3
  v3 := Tryz.zeroValue3
  t4 := Tryz.underlying4
  a4 := Tryz.isAgg4
  z4 := Tryz.sizeOf4
  v4 := Tryz.zeroValue4
  t5 := Tryz.underlying5
  a5 := Tryz.isAgg5
  z5 := Tryz.sizeOf5
  v5 := Tryz.zeroValue5
  t9 := Tryz.underlying9
  a9 := Tryz.isAgg9
  z9 := Tryz.sizeOf9
  v9 := Tryz.zeroValue9
  t20 := Tryz.underlying20
  a20 := Tryz.isAgg20
  z20 := Tryz.sizeOf20
  v20 := Tryz.zeroValue20
  t21 := Tryz.underlying21
  a21 := Tryz.isAgg21
  z21 := Tryz.sizeOf21
  v21 := Tryz.zeroValue21
  t37 := Tryz.underlying42
  a37 := Tryz.isAgg42
  z37 := Tryz.sizeOf42
  v37 := Tryz.zeroValue42
  t46 := Tryz.underlying37
  a46 := Tryz.isAgg37
  z46 := Tryz.sizeOf37
  v46 := Tryz.zeroValue37
  t51 := Tryz.underlying213
  a51 := Tryz.isAgg213
  z51 := Tryz.sizeOf213
  v51 := Tryz.zeroValue213
  t53 := Tryz.underlying189
  a53 := Tryz.isAgg189
  z53 := Tryz.sizeOf189
  v53 := Tryz.zeroValue189
  t75 := Tryz.underlying90
  a75 := Tryz.isAgg90
  z75 := Tryz.sizeOf90
  v75 := Tryz.zeroValue90
  t76 := Tryz.underlying91
  a76 := Tryz.isAgg91
  z76 := Tryz.sizeOf91
  v76 := Tryz.zeroValue91
  t85 := Tryz.underlying167
  a85 := Tryz.isAgg167
  z85 := Tryz.sizeOf167
  v85 := Tryz.zeroValue167
  t127 := Tryz.underlying85
  a127 := Tryz.isAgg85
  z127 := Tryz.sizeOf85
  v127 := Tryz.zeroValue85
  t143 := Tryz.underlying236
  a143 := Tryz.isAgg236
  z143 := Tryz.sizeOf236
  v143 := Tryz.zeroValue236
  t145 := Tryz.underlying238
  a145 := Tryz.isAgg238
  z145 := Tryz.sizeOf238
  v145 := Tryz.zeroValue238
  t167 := Tryz.underlying166
  a167 := Tryz.isAgg166
  z167 := Tryz.sizeOf166
  v167 := Tryz.zeroValue166
  t168 := Tryz.underlying169
  a168 := Tryz.isAgg169
  z168 := Tryz.sizeOf169
  v168 := Tryz.zeroValue169
  t171 := Tryz.underlying188
  a171 := Tryz.isAgg188
  z171 := Tryz.sizeOf188
  v171 := Tryz.zeroValue188
  t173 := Tryz.underlying192
  a173 := Tryz.isAgg192
  z173 := Tryz.sizeOf192
  v173 := Tryz.zeroValue192
  t175 := Tryz.underlying206
  a175 := Tryz.isAgg206
  z175 := Tryz.sizeOf206
  v175 := Tryz.zeroValue206
  t210 := Tryz.underlying209
  a210 := Tryz.isAgg209
  z210 := Tryz.sizeOf209
  v210 := Tryz.zeroValue209
  t212 := Tryz.underlying219
  a212 := Tryz.isAgg219
  z212 := Tryz.sizeOf219
  v212 := Tryz.zeroValue219
  t213 := Tryz.underlying220
  a213 := Tryz.isAgg220
  z213 := Tryz.sizeOf220
  t232 := Tryz.underlying249
  a232 := Tryz.isAgg249
  z232 := Tryz.sizeOf249
  v232 := Tryz.zeroValue249
  t233 := Tryz.underlying250
  a233 := Tryz.isAgg250
  z233 := Tryz.sizeOf250
  v233 := Tryz.zeroValue250
  g15 := by kernel_rfl
  g16 := by kernel_rfl
  g17 := by kernel_rfl
  g18 := by kernel_rfl
  g19 := by kernel_rfl
  t80 := Tryz.underlying52
  a80 := Tryz.isAgg52
  z80 := Tryz.sizeOf52
  v80 := Tryz.zeroValue52
  i0 := by kernel_rfl
  i2 := by kernel_rfl
  i3 := by kernel_rfl
  i4 := by kernel_rfl
  i5 := by kernel_rfl
  i9 := by kernel_rfl
  i20 := by kernel_rfl
  i21 := by kernel_rfl
  i37 := by kernel_rfl
  i46 := by kernel_rfl
  i51 := by kernel_rfl
  i53 := by kernel_rfl
  i75 := by kernel_rfl
  i76 := by kernel_rfl
  i80 := by kernel_rfl
  i85 := by kernel_rfl
  i127 := by kernel_rfl
  i143 := by kernel_rfl
  i145 := by kernel_rfl
  i167 := by kernel_rfl
  i168 := by kernel_rfl
  i171 := by kernel_rfl
  i173 := by kernel_rfl
  i175 := by kernel_rfl
  i210 := by kernel_rfl
  i212 := by kernel_rfl
  i232 := by kernel_rfl
  i233 := by kernel_rfl
  m15 := by kernel_rfl
  m16 := by kernel_rfl
  m17 := by kernel_rfl
  m18 := by kernel_rfl
  m19 := by kernel_rfl
  c0 := by kernel_rfl
  c2 := by kernel_rfl
  c3 := by kernel_rfl
  c4 := by kernel_rfl
  c5 := by kernel_rfl
  c9 := by kernel_rfl
  c20 := by kernel_rfl
  c21 := by kernel_rfl
  c37 := by kernel_rfl
  c46 := by kernel_rfl
  c51 := by kernel_rfl
  c53 := by kernel_rfl
  c75 := by kernel_rfl
  c76 := by kernel_rfl
  c80 := by kernel_rfl
  c85 := by kernel_rfl
  c127 := by kernel_rfl
  c143 := by kernel_rfl
  c145 := by kernel_rfl
  c167 := by kernel_rfl
  c168 := by kernel_rfl
  c171 := by kernel_rfl
  c173 := by kernel_rfl
  c175 := by kernel_rfl
  c210 := by kernel_rfl
  c212 := by kernel_rfl
  c213 := by kernel_rfl
  c232 := by kernel_rfl
  c233 := by kernel_rfl }
open Go.RowKit in
theorem Tryz.strconv_Atoi_ok (s : ByteArray) (hmax : s.size ≤ 9223372036854775806) (v : Int) (h : Lib.atoiAll s.data.toList = .ok v) (w : World) :
    Calls Tryz.prog 35 #[.string s] w fun e w' => e = .returned (.tuple #[.int .i64 v, .nilIface]) ∧ (w' = w ∨ ∃ t, w' = Lib.bytesWorld w 5 t) := Any.strconv_Atoi_ok Tryz.laysC172 s hmax v h w
open Go.RowKit in
theorem Tryz.strconv_Atoi_syntax (s : ByteArray) (hlim : s.size ≤ 281474976710656) (h : Lib.atoiAll s.data.toList = .«syntax») (ev : Value) (w : World) (hv : w.cell? ⟨2, 0, none⟩ = some ev) (hev : ev = .nilIface ∨ ∃ te pe, ev = .iface te pe) :
    Calls Tryz.prog 35 #[.string s] w fun e w' => ∃ N, e = .returned (.tuple #[.int .i64 (0), .iface 169 (.pointer (some ⟨N, 0, none⟩))]) ∧ w.heap.size ≤ N ∧ w'.heap[N]? = some (.cells #[.string ⟨#[65, 116, 111, 105]⟩, .string s, ev] 209 (0, 0)) ∧ Below w.heap.size w w' := Any.strconv_Atoi_syntax Tryz.laysC172 s hlim h ev w hv hev
open Go.RowKit in
theorem Tryz.strconv_Atoi_range (s : ByteArray) (hlim : s.size ≤ 281474976710656) (h : Lib.atoiAll s.data.toList = .range) (ev : Value) (w : World) (hv : w.cell? ⟨3, 0, none⟩ = some ev) (hev : ev = .nilIface ∨ ∃ te pe, ev = .iface te pe) :
    Calls Tryz.prog 35 #[.string s] w fun e w' => ∃ N, e = .returned (.tuple #[.int .i64 (Lib.atoiSat s.data.toList), .iface 169 (.pointer (some ⟨N, 0, none⟩))]) ∧ w.heap.size ≤ N ∧ w'.heap[N]? = some (.cells #[.string ⟨#[65, 116, 111, 105]⟩, .string s, ev] 209 (0, 0)) ∧ Below w.heap.size w w' := Any.strconv_Atoi_range Tryz.laysC172 s hlim h ev w hv hev
def Tryz.lays144_ren : Go.Shelf.Ren := ⟨fun | 144 => 22 | 143 => 44 | 219 => 76 | 217 => 110 | 225 => 111 | 224 => 112 | 267 => 113 | 266 => 146 | 314 => 147 | n => n, fun | 9 => 9 | 4 => 4 | 3 => 3 | 5 => 5 | 46 => 37 | 146 => 214 | 51 => 213 | n => n, fun | 1 => 1 | n => n⟩
theorem Tryz.lays144 : Go.Proofs.Lays.n144 Tryz.prog Tryz.lays144_ren := {
  mixed := by kernel_rfl
  f143 := Tryz.func44.trans (congrArg some (by kernel_rfl))
  f144 := Tryz.func22.trans (congrArg some (by kernel_rfl))
  f217 := Tryz.func110.trans (congrArg some (by kernel_rfl))
  f219 := Tryz.func76.trans (congrArg some (by kernel_rfl))
  f224 := Tryz.func112.trans (congrArg some (by kernel_rfl))
  f225 := Tryz.func111.trans (congrArg some (by kernel_rfl))
  f266 := Tryz.func146.trans (congrArg some (by kernel_rfl))
  f267 := Tryz.func113.trans (congrArg some (by kernel_rfl))
  f314 := Tryz.func147.trans (congrArg some (by kernel_rfl))
  t3 := Tryz.underlying3
  a3 := Tryz.isAgg3
  z3 := Tryz.sizeOf3
  v3 := Tryz.zeroValue3
  t4 := Tryz.underlying4
  a4 := Tryz.isAgg4
  z4 := Tryz.sizeOf4
  v4 := Tryz.zeroValue4
  t5 := Tryz.underlying5
  a5 := Tryz.isAgg5
  z5 := Tryz.sizeOf5
  v5 := Tryz.zeroValue5
  t9 := Tryz.underlying9
  a9 := Tryz.isAgg9
  z9 := Tryz.sizeOf9
  v9 := Tryz.zeroValue9
  t46 := Tryz.underlying37
  a46 := Tryz.isAgg37
  z46 := Tryz.sizeOf37
  v46 := Tryz.zeroValue37
  t51 := Tryz.underlying213
  a51 := Tryz.isAgg213
  z51 := Tryz.sizeOf213
  v51 := Tryz.zeroValue213
  t146 := Tryz.underlying214
  a146 := Tryz.isAgg214
  z146 := Tryz.sizeOf214
  v146 := Tryz.zeroValue214
  g1 := by kernel_rfl }
open Go.RowKit Go.Lib in
theorem Tryz.strings_Contains_one (s : ByteArray) (c : UInt8) (w : World) :
    Calls Tryz.prog 22 #[.string s, .string ⟨#[c]⟩] w fun e w' => e = .returned (.bool (decide (0 ≤ Lib.indexByte s.data.toList c))) ∧ w' = w := Any.strings_Contains_one Tryz.lays144 s c w
def Tryz.lays145_ren : Go.Shelf.Ren := ⟨fun | 145 => 46 | 220 => 81 | 219 => 76 | 217 => 110 | 225 => 111 | 224 => 112 | 267 => 113 | 266 => 146 | 314 => 147 | n => n, fun | 9 => 9 | 4 => 4 | 59 => 112 | 3 => 3 | 5 => 5 | 46 => 37 | 146 => 214 | 51 => 213 | n => n, fun | 1 => 1 | n => n⟩
theorem Tryz.lays145 : Go.Proofs.Lays.n145 Tryz.prog Tryz.lays145_ren := {
  mixed := by kernel_rfl
  f145 := Tryz.func46.trans (congrArg some (by kernel_rfl))
  f217 := Tryz.func110.trans (congrArg some (by kernel_rfl))
  f219 := Tryz.func76.trans (congrArg some (by kernel_rfl))
  f220 := Tryz.func81.trans (congrArg some (by kernel_rfl))
  f224 := Tryz.func112.trans (congrArg some (by kernel_rfl))
  f225 := Tryz.func111.trans (congrArg some (by kernel_rfl))
  f266 := Tryz.func146.trans (congrArg some (by kernel_rfl))
  f267 := Tryz.func113.trans (congrArg some (by kernel_rfl))
  f314 := Tryz.func147.trans (congrArg some (by kernel_rfl))
  t3 := Tryz.underlying3
  a3 := Tryz.isAgg3
  z3 := Tryz.sizeOf3
  v3 := Tryz.zeroValue3
  t4 := Tryz.underlying4
  a4 := Tryz.isAgg4
  z4 := Tryz.sizeOf4
  v4 := Tryz.zeroValue4
  t5 := Tryz.underlying5
  a5 := Tryz.isAgg5
  z5 := Tryz.sizeOf5
  v5 := Tryz.zeroValue5
  t9 := Tryz.underlying9
  a9 := Tryz.isAgg9
  z9 := Tryz.sizeOf9
  v9 := Tryz.zeroValue9
  t46 := Tryz.underlying37
  a46 := Tryz.isAgg37
  z46 := Tryz.sizeOf37
  v46 := Tryz.zeroValue37
  t51 := Tryz.underlying213
  a51 := Tryz.isAgg213
  z51 := Tryz.sizeOf213
  v51 := Tryz.zeroValue213
  t59 := Tryz.underlying112
  a59 := Tryz.isAgg112
  z59 := Tryz.sizeOf112
  v59 := Tryz.zeroValue112
  t146 := Tryz.underlying214
  a146 := Tryz.isAgg214
  z146 := Tryz.sizeOf214
  v146 := Tryz.zeroValue214
  g1 := by kernel_rfl }
open Go.RowKit Go.Lib in
theorem Tryz.strings_Cut (s sep : ByteArray) (m : Int) (w : World) (hs : s.size < 4294967281) (hm : w.cell? ⟨1, 0, none⟩ = some (.int .i64 m)) :
    Calls Tryz.prog 46 #[.string s, .string sep] w fun e w' => e = .returned (.tuple #[.string ⟨(Lib.cut s.data.toList sep.data.toList).1.toArray⟩, .string ⟨(Lib.cut s.data.toList sep.data.toList).2.1.toArray⟩, .bool (Lib.cut s.data.toList sep.data.toList).2.2]) ∧ ∃ n, w' = w.drewN n := Any.strings_Cut Tryz.lays145 s sep m w hs hm
end Go.Proofs
namespace Go.Proofs.YtldkeaeohceckadGreatDoor
set_option maxRecDepth 20000
set_option maxHeartbeats 64000000
/- What the library's functions tell that a desk calls, by the shelf's contracts; the variables that they read. -/
section
open Go.RowKit

def odv (o : Od) : List Value := [.string ⟨o.name.toArray⟩, .string ⟨o.letters.toArray⟩, .int .i64 o.kind, .int .i64 o.mode]
def odc : Array Value := (ods.flatMap odv).toArray
/-- The variables of packages, as they lie when a call begins. -/
structure Gnd (w : World) : Prop where
  mx : ∃ m, w.cell? ⟨1, 0, none⟩ = some (.int .i64 m)
  syn : ∃ ev, w.cell? ⟨2, 0, none⟩ = some ev ∧ (ev = .nilIface ∨ ∃ te pe, ev = .iface te pe)
  rng : ∃ ev, w.cell? ⟨3, 0, none⟩ = some ev ∧ (ev = .nilIface ∨ ∃ te pe, ev = .iface te pe)
  pow : Lib.TabIs Tryz.prog w "internal/strconv.uint64pow10" .u64 Lib.pow10Tab
  ord : ∃ T fr, w.heap[0]? = some (.cells odc T fr)
theorem gnd_kp {w w' : World} (h : Gnd w) (hk : Kp [] w w') : Gnd w' := by
  obtain ⟨⟨m, h1⟩, ⟨v2, h2, e2⟩, ⟨v3, h3, e3⟩, h4, T, fr, h5⟩ := h
  refine ⟨⟨m, hk.cell (by simp) h1⟩, ⟨v2, hk.cell (by simp) h2, e2⟩, ⟨v3, hk.cell (by simp) h3, e3⟩, Go.Joins.tab_stays (g := 4) (by kernel_rfl) h4 (below_of_kp hk) (Nat.le_refl _), T, fr, ?_⟩
  rw [hk.block 0 (lt_of_block h5) (by simp)]
  exact h5
theorem kp_drewN (w : World) (n : Nat) : Kp [] w (w.drewN n) := ⟨rfl, rfl, rfl, Nat.le_refl _, fun _ _ _ => rfl⟩
theorem mk8 (l : List UInt8) : (ByteArray.mk l.toArray).data.toList = l := by simp
theorem size8 (l : List UInt8) : (ByteArray.mk l.toArray).size = l.length := by simp [ByteArray.size]
theorem scontains (l : List UInt8) (w : World) : Calls Tryz.prog 22 #[.string ⟨l.toArray⟩, .string ⟨#[10]⟩] w fun e w' => e = .returned (.bool (decide ((10 : UInt8) ∈ l))) ∧ w' = w := by
  refine (Tryz.strings_Contains_one ⟨l.toArray⟩ 10 w).mono ?_
  rintro e w' ⟨rfl, rfl⟩
  refine ⟨?_, rfl⟩
  rw [mk8]
  have : (decide (0 ≤ Lib.indexByte l 10)) = decide ((10 : UInt8) ∈ l) := by
    rw [decide_eq_decide]
    constructor
    · intro h
      obtain ⟨o, ho⟩ : ∃ o : Nat, Lib.indexByte l 10 = o := ⟨(Lib.indexByte l 10).toNat, by omega⟩
      have := (Lib.indexByte_some ho).1
      exact List.mem_of_getElem? this
    · intro h
      by_cases hn : Lib.indexByte l 10 = -1
      · obtain ⟨k, hk⟩ := List.getElem?_of_mem h
        exact absurd hk (Lib.indexByte_none hn k)
      · have := Lib.indexByte_ge l 10; omega
  rw [this]
theorem strim (l : List UInt8) (w : World) : Calls Tryz.prog 45 #[.string ⟨l.toArray⟩, .string ⟨#[32]⟩] w fun e w' => e = .returned (.string ⟨(Lib.trimLeftB l 32).toArray⟩) ∧ w' = w := by
  have := Tryz.strings_TrimLeft_one ⟨l.toArray⟩ 32 (by decide) w
  rw [mk8] at this
  exact this
theorem scut (l : List UInt8) (w : World) (hg : Gnd w) (hl : l.length ≤ 100000) : Calls Tryz.prog 46 #[.string ⟨l.toArray⟩, .string ⟨#[32]⟩] w fun e w' => ∃ b, e = .returned (.tuple #[.string ⟨(Lib.cut l [32]).1.toArray⟩, .string ⟨(Lib.cut l [32]).2.1.toArray⟩, .bool b]) ∧ Kp [] w w' := by
  obtain ⟨m, hm⟩ := hg.mx
  refine (Tryz.strings_Cut ⟨l.toArray⟩ ⟨#[32]⟩ m w (by rw [size8]; omega) hm).mono ?_
  rintro e w' ⟨rfl, n, rfl⟩
  rw [mk8]
  exact ⟨_, rfl, kp_drewN w n⟩
theorem sitoa (n : Int) (w : World) (hg : Gnd w) (h0 : -9223372036854775808 ≤ n) (h1 : n ≤ 9223372036854775807) : Calls Tryz.prog 25 #[.int .i64 n] w fun e w' => e = .returned (.string ⟨(Lib.itoa n).toArray⟩) ∧ Kp [] w w' := by
  refine (Tryz.strconv_Itoa n h0 h1 w hg.pow).mono ?_
  rintro e w' ⟨rfl, k, os, rfl⟩
  exact ⟨rfl, ⟨rfl, rfl, rfl, Nat.le_trans (Nat.le_add_right _ _) (Nat.le_of_eq (Array.size_append (xs := w.heap) (ys := os)).symm), fun g hg _ => Array.getElem?_append_left (xs := w.heap) (ys := os) hg⟩⟩
theorem scutp (l : List UInt8) (w : World) : Calls Tryz.prog 123 #[.string ⟨l.toArray⟩, .string ⟨#[61]⟩] w fun e w' => e = .returned (.tuple #[.string ⟨(Lib.trimPrefix l [61]).toArray⟩, .bool (Lib.hasPrefix l [61])]) ∧ w' = w := by
  have := Tryz.strings_CutPrefix ⟨l.toArray⟩ ⟨#[61]⟩ w
  rw [mk8] at this
  exact this
theorem kp_bytes (w : World) (t : ByteArray) : Kp [] w (Lib.bytesWorld w 5 t) := kp_of_below (Go.Joins.below_bytesWorld _ w 5 t (Nat.le_refl _))
/-- What Atoi tells: a number, or that it is none. -/
theorem satoi (l : List UInt8) (w : World) (hg : Gnd w) (hl : l.length ≤ 100000) : Calls Tryz.prog 35 #[.string ⟨l.toArray⟩] w fun e w' => ∃ (z : Int) (ev : Value), e = .returned (.tuple #[.int .i64 z, ev]) ∧ (Lib.atoiAll l = .ok z ∧ ev = .nilIface ∧ -9223372036854775808 ≤ z ∧ z ≤ 9223372036854775807 ∨ (∀ v, Lib.atoiAll l ≠ .ok v) ∧ ∃ T p, ev = .iface T p) ∧ Kp [] w w' := by
  cases ha : Lib.atoiAll l with
  | ok v =>
    refine (Tryz.strconv_Atoi_ok ⟨l.toArray⟩ (by rw [size8]; omega) v (by rw [mk8]; exact ha) w).mono ?_
    rintro e w' ⟨rfl, hw⟩
    have hb := Lib.atoiAll_bounds ha
    refine ⟨v, .nilIface, rfl, .inl ⟨rfl, rfl, hb.1, hb.2⟩, ?_⟩
    rcases hw with rfl | ⟨t, rfl⟩
    · exact Kp.refl _ _
    · exact kp_bytes w t
  | «syntax» =>
    obtain ⟨ev, hv, hev⟩ := hg.syn
    refine (Tryz.strconv_Atoi_syntax ⟨l.toArray⟩ (by rw [size8]; omega) (by rw [mk8]; exact ha) ev w hv hev).mono ?_
    rintro e w' ⟨N, rfl, _, _, hb⟩
    exact ⟨_, _, rfl, .inr ⟨(by intro v h; cases h), _, _, rfl⟩, kp_of_below hb⟩
  | range =>
    obtain ⟨ev, hv, hev⟩ := hg.rng
    refine (Tryz.strconv_Atoi_range ⟨l.toArray⟩ (by rw [size8]; omega) (by rw [mk8]; exact ha) ev w hv hev).mono ?_
    rintro e w' ⟨N, rfl, _, _, hb⟩
    exact ⟨_, _, rfl, .inr ⟨(by intro v h; cases h), _, _, rfl⟩, kp_of_below hb⟩
end
/- What the listed variables of packages give: the ground that the desk's walks stand on. -/
section
open Go.ChangeShapes Go.WideShapes Go.ChangeAt Go.RowKit

theorem oc120 : Tryz.prog.cellsOf 120 = 4 := by kernel_rfl
theorem oc121 : Tryz.prog.cellsOf 121 = 48 := by kernel_rfl
theorem oc9 : Tryz.prog.cellsOf 9 = 1 := by kernel_rfl
theorem oc3 : Tryz.prog.cellsOf 3 = 1 := by kernel_rfl
def odd {H : Type} (o : Od) : DataW H := .agg [.lit (.string o.name), .lit (.string o.letters), .lit (.int .i64 o.kind), .lit (.int .i64 o.mode)]
theorem odd_all : (Rows.laid_vaultage_desk_orders : DataW Unit) = .agg (ods.map odd) := rfl
theorem od_of {m : Nat} {W : World} {cs : List Value} {o : Od} {p : List MemPlace} {sp : Nat → Bool} {held : Bool}
    (h : DataW.trod (fun _ => ()) Tryz.prog W 0 sp held m 120 cs = some (odd o, p)) : cs = odv o := by
  obtain ⟨y0, y1, y2, y3, n, hx, hl, h0, h1, h2, h3⟩ := Go.Joins.trod_struct4 Tryz.underlying120 h
  rw [oc120] at hl
  match cs, hl with
  | [c0, c1, c2, c3], _ =>
    simp only [oc9, oc3] at h0 h1 h2 h3
    obtain ⟨s0, e0, f0, _⟩ := DataW.trod_string Tryz.underlying9 h0
    obtain ⟨s1, e1, f1, _⟩ := DataW.trod_string Tryz.underlying9 h1
    obtain ⟨n2, e2, f2, _⟩ := DataW.trod_int Tryz.underlying3 h2
    obtain ⟨n3, e3, f3, _⟩ := DataW.trod_int Tryz.underlying3 h3
    simp at e0 e1 e2 e3
    rw [f0, f1, f2, f3] at hx
    unfold odd at hx
    simp only [Prod.mk.injEq, DataW.agg.injEq, List.cons.injEq, DataW.lit.injEq, Lit.string.injEq, Lit.int.injEq, true_and, and_true] at hx
    obtain ⟨⟨a0, a1, a2, a3⟩, _⟩ := hx
    unfold odv
    rw [e0, e1, e2, e3, a0, a1, a2, a3]
theorem chunk4 (L : List Value) (k : Nat) : L.drop k = (L.drop k).take 4 ++ L.drop (k + 4) := by rw [← List.drop_drop, List.take_append_drop]
theorem ods_of {m : Nat} {W : World} {cs : Array Value} {p : List MemPlace} {sp : Nat → Bool} {held : Bool}
    (h : DataW.trod (fun _ => ()) Tryz.prog W 0 sp held m 121 cs.toList = some (.agg (ods.map odd), p)) : cs = odc := by
  obtain ⟨xs, k, _, hx, hl, hlen, hel⟩ := DataW.trod_array Tryz.underlying121 h
  rw [oc121] at hl
  rw [oc120] at hel
  simp only [Prod.mk.injEq, DataW.agg.injEq] at hx
  have key : ∀ i o, ods[i]? = some o → (cs.toList.drop (i * 4)).take 4 = odv o := fun i o ho => by
    have hi : i < 12 := (List.getElem?_eq_some_iff.1 ho).1
    have h1 := hel i hi
    obtain ⟨y, hy⟩ : ∃ y, xs[i]? = some y := ⟨_, List.getElem?_eq_getElem (by omega)⟩
    rw [hy] at h1
    have h2 : (xs.map (·.1))[i]? = some (odd o) := by rw [← hx.1, List.getElem?_map, ho]; rfl
    rw [List.getElem?_map, hy] at h2
    have h3 : y.1 = odd o := Option.some.inj h2
    obtain ⟨d, q⟩ := y
    dsimp only at h3
    subst h3
    exact od_of h1
  apply Array.ext'
  generalize cs.toList = L at *
  have e0 := key 0 _ rfl
  have e1 := key 1 _ rfl
  have e2 := key 2 _ rfl
  have e3 := key 3 _ rfl
  have e4 := key 4 _ rfl
  have e5 := key 5 _ rfl
  have e6 := key 6 _ rfl
  have e7 := key 7 _ rfl
  have e8 := key 8 _ rfl
  have e9 := key 9 _ rfl
  have e10 := key 10 _ rfl
  have e11 := key 11 _ rfl
  have hend : L.drop 48 = [] := List.drop_of_length_le (by omega)
  have d0 : L.drop 0 = _ ++ L.drop 4 := (chunk4 L 0).trans (congrArg (· ++ L.drop 4) (show (L.drop 0).take 4 = _ from e0))
  have d1 : L.drop 4 = _ ++ L.drop 8 := (chunk4 L 4).trans (congrArg (· ++ L.drop 8) (show (L.drop 4).take 4 = _ from e1))
  have d2 : L.drop 8 = _ ++ L.drop 12 := (chunk4 L 8).trans (congrArg (· ++ L.drop 12) (show (L.drop 8).take 4 = _ from e2))
  have d3 : L.drop 12 = _ ++ L.drop 16 := (chunk4 L 12).trans (congrArg (· ++ L.drop 16) (show (L.drop 12).take 4 = _ from e3))
  have d4 : L.drop 16 = _ ++ L.drop 20 := (chunk4 L 16).trans (congrArg (· ++ L.drop 20) (show (L.drop 16).take 4 = _ from e4))
  have d5 : L.drop 20 = _ ++ L.drop 24 := (chunk4 L 20).trans (congrArg (· ++ L.drop 24) (show (L.drop 20).take 4 = _ from e5))
  have d6 : L.drop 24 = _ ++ L.drop 28 := (chunk4 L 24).trans (congrArg (· ++ L.drop 28) (show (L.drop 24).take 4 = _ from e6))
  have d7 : L.drop 28 = _ ++ L.drop 32 := (chunk4 L 28).trans (congrArg (· ++ L.drop 32) (show (L.drop 28).take 4 = _ from e7))
  have d8 : L.drop 32 = _ ++ L.drop 36 := (chunk4 L 32).trans (congrArg (· ++ L.drop 36) (show (L.drop 32).take 4 = _ from e8))
  have d9 : L.drop 36 = _ ++ L.drop 40 := (chunk4 L 36).trans (congrArg (· ++ L.drop 40) (show (L.drop 36).take 4 = _ from e9))
  have d10 : L.drop 40 = _ ++ L.drop 44 := (chunk4 L 40).trans (congrArg (· ++ L.drop 44) (show (L.drop 40).take 4 = _ from e10))
  have d11 : L.drop 44 = _ ++ L.drop 48 := (chunk4 L 44).trans (congrArg (· ++ L.drop 48) (show (L.drop 44).take 4 = _ from e11))
  have h0 : L = L.drop 0 := rfl
  rw [h0, d0, d1, d2, d3, d4, d5, d6, d7, d8, d9, d10, d11, hend]
  rfl
theorem esStar : "*" ++ "errors.errorString" = "*errors.errorString" := by decide
theorem esRow (u : TypeId) (h : Tryz.prog.typeName? 3 u = some "*errors.errorString") : u = 236 :=
  typeName_ptr_named (nm := "errors.errorString") (by rw [esStar]; kernel_rfl) (by kernel_rfl) (by decide) u (by rw [esStar]; exact h)
theorem var_cell {W : World} {n : String} {g : Nat} {v : Value} (hg : Tryz.prog.globalNamed n = some g) (h : W.var? Tryz.prog n = some #[v]) : W.cell? ⟨g, 0, none⟩ = some v := by simpa using World.var?_cell hg h 0
theorem pow_data : (Rows.laid_internal_strconv_uint64pow10 : DataW Unit) = Lib.tabData .u64 Lib.pow10Tab := by kernel_rfl
theorem gnd_of {W : World} (hL : laidMet Tryz.prog Rows.deskJoinsRow.laid W) (hsh : W.ShapedOpen Tryz.prog) : Gnd W := by
  have h2 : laidMet Tryz.prog (("internal/strconv.uint64pow10", Rows.laid_internal_strconv_uint64pow10) :: _) W := hL.tail.tail
  have h4 : laidMet Tryz.prog (("strconv.ErrRange", Rows.laid_strconv_ErrRange) :: _) W := h2.tail.tail
  have h5 : laidMet Tryz.prog (("strconv.ErrSyntax", Rows.laid_strconv_ErrSyntax) :: _) W := h4.tail
  have h6 : laidMet Tryz.prog (("vaultage/desk.orders", Rows.laid_vaultage_desk_orders) :: _) W := h5.tail
  rw [pow_data] at h2
  obtain ⟨ar, sr, hvr, _, _, _⟩ := laid_sentinel (ti := 90) h4 (g := 3) (by kernel_rfl) (by kernel_rfl) Tryz.underlying90 esRow Tryz.underlying236 Tryz.underlying238 rfl rfl Tryz.underlying9 (by kernel_rfl) oc9
  obtain ⟨as2, ss, hvs, _, _, _⟩ := laid_sentinel (ti := 90) h5 (g := 2) (by kernel_rfl) (by kernel_rfl) Tryz.underlying90 esRow Tryz.underlying236 Tryz.underlying238 rfl rfl Tryz.underlying9 (by kernel_rfl) oc9
  refine ⟨cell_of_shapedOpen_int (g := 1) (t := 3) (zero := #[.int .i64 0]) hsh (of_decide_eq_true (by kernel_rfl)) (by kernel_rfl) rfl (by kernel_rfl) (by kernel_rfl) Tryz.underlying3, ⟨_, var_cell (by kernel_rfl) hvs, .inr ⟨_, _, rfl⟩⟩, ⟨_, var_cell (by kernel_rfl) hvr, .inr ⟨_, _, rfl⟩⟩, Lib.tabIs_of_head (g := 4) (t := 219) (by kernel_rfl) (by kernel_rfl) Tryz.underlying219 Tryz.underlying189 (by kernel_rfl) (by kernel_rfl) h2, ?_⟩
  obtain ⟨ps, ⟨g0, t0, cs0, f0, p0, q0, hg0, ht0, hv0, hd0, _, e0⟩, _⟩ := h6
  have eg : g0 = 0 := (Option.some.inj ((show Tryz.prog.globalNamed "vaultage/desk.orders" = some 0 by kernel_rfl).symm.trans hg0)).symm
  subst eg
  have et : t0 = 121 := (Option.some.inj ((show (Tryz.prog.globals[0]?).map (·.type) = some 121 by kernel_rfl).symm.trans ht0)).symm
  subst et
  rw [odd_all] at hd0
  have ec := ods_of hd0
  subst ec
  unfold World.var? at hv0
  rw [hg0] at hv0
  simp only [Option.bind_some] at hv0
  cases hh : W.heap[0]? with
  | none => rw [hh] at hv0; cases hv0
  | some o =>
    rw [hh] at hv0
    cases o with
    | cells c t f => cases hv0; exact ⟨t, f, rfl⟩
    | _ => cases hv0
end
/- Rows of elements of some cells each, of one's own: append onto them; as things. -/
section
open Go.RowKit

/-- n elements of k cells lie from the beginning of a block of one's own on. -/
def KRow (e : TypeId) (k : Nat) (B : Nat) (w : World) (a : Option Addr) (n cap : Nat) (xs : List Value) : Prop :=
  xs.length = n * k ∧ ((a = none ∧ n = 0 ∧ cap = 0) ∨ ∃ g cur, a = some ⟨g, 0, none⟩ ∧ B ≤ g ∧ w.heap[g]? = some (.cells cur e (0, 0)) ∧ n ≤ cap ∧ cap ≤ maxLen ∧ cap * k ≤ cur.size ∧ cur.toList.take (n * k) = xs)

section
variable {e : TypeId} {k B : Nat} {w w' : World} {a : Option Addr} {n cap : Nat} {xs : List Value}
theorem krow_nil (e : TypeId) (k B : Nat) (w : World) : KRow e k B w none 0 0 [] := ⟨by simp, .inl ⟨rfl, rfl, rfl⟩⟩
theorem KRow.le (h : KRow e k B w a n cap xs) : n ≤ cap := by
  rcases h.2 with ⟨_, e1, e2⟩ | ⟨g, cur, _, _, _, h1, _⟩
  · omega
  · exact h1
theorem KRow.lo (h : KRow e k B w a n cap xs) : ∀ x ∈ ob a, B ≤ x ∧ x < w.heap.size := by
  intro x hx
  rcases h.2 with ⟨rfl, _⟩ | ⟨g, cur, rfl, h1, h2, _⟩
  · simp [ob] at hx
  · simp [ob] at hx
    have := lt_of_block h2
    omega
theorem KRow.kp {S : List Nat} (h : KRow e k B w a n cap xs) (hk : Kp S w w') (hS : ∀ x ∈ ob a, x ∉ S) : KRow e k B w' a n cap xs := by
  refine ⟨h.1, ?_⟩
  rcases h.2 with hn | ⟨g, cur, rfl, h1, h2, h3⟩
  · exact .inl hn
  · exact .inr ⟨g, cur, rfl, h1, by rw [hk.block g (lt_of_block h2) (hS g (by simp [ob]))]; exact h2, h3⟩
theorem KRow.kp0 (h : KRow e k B w a n cap xs) (hk : Kp [] w w') : KRow e k B w' a n cap xs := h.kp hk (fun _ _ => by simp)
theorem KRow.base {C : Nat} (h : KRow e k B w a n cap xs) (hC : C ≤ B) : KRow e k C w a n cap xs := by
  refine ⟨h.1, ?_⟩
  rcases h.2 with hn | ⟨g, cur, rfl, h1, h2⟩
  · exact .inl hn
  · exact .inr ⟨g, cur, rfl, by omega, h2⟩
theorem KRow.cell (h : KRow e k B w a n cap xs) {j : Nat} {v : Value} (hj : xs[j]? = some v) : ∃ g, a = some ⟨g, 0, none⟩ ∧ w.cell? ⟨g, j, none⟩ = some v := by
  have hl : j < n * k := by rw [← h.1]; exact (List.getElem?_eq_some_iff.1 hj).1
  rcases h.2 with ⟨_, e1, _⟩ | ⟨g, cur, rfl, h1, h2, h3, h4, h5, h6⟩
  · subst e1; omega
  · refine ⟨g, rfl, cell_of_block h2 ?_⟩
    rw [← h6, List.getElem?_take] at hj
    rw [if_pos hl] at hj
    simpa using hj
theorem krow_app {t : TypeId} {z : Value} {by_ : Nat} (hu : Tryz.prog.underlying t = some (.slice e)) (hi : (Tryz.prog.info? e).map (fun i => (i.zero, i.size, i.bytes)) = some (some z, k, by_)) (hz : z.cells.size = k) (hby : by_ ≤ 1000)
    (h : KRow e k B w a n cap xs) (hB : B ≤ w.heap.size) (ty : TypeId) (x : Value) (news : List Value) (m : Nat) (hs : Src Tryz.prog k t x m news w) (hl : n + m ≤ 100000) :
    ∃ a' cap' w', (Builtin.append_ #[t, t] ty #[.slice a n cap, x]).run Tryz.prog w = .ok (.slice a' (n + m) cap') w' ∧ KRow e k B w' a' (n + m) cap' (xs ++ news) ∧ Kp (ob a) w w' ∧ ∀ y ∈ ob a', y ∈ ob a ∨ w.heap.size ≤ y := by
  obtain ⟨i0, hi0, hz0, hz1, hz2⟩ := info_parts hi
  have hs' : Src Tryz.prog i0.size t x m news w := by rw [hz1]; exact hs
  have hnl : news.length = m * k := hs.newsLen
  have hxl := h.1
  have hle := h.le
  have hall : (xs ++ news).length = (n + m) * k := by rw [List.length_append, hxl, hnl, Nat.add_mul]
  by_cases hp : m = 0
  · subst hp
    have e0 : news = [] := List.eq_nil_of_length_eq_zero (by rw [hnl]; omega)
    subst e0
    have hr := run_append_nothing (P := Tryz.prog) w t t ty e i0 hu hi0 a n cap hle x hs'
    exact ⟨a, cap, w, hr, by rw [List.append_nil]; exact h, Kp.refl _ _, fun y hy => .inl hy⟩
  have hold : (Builtin.firstCells i0.size n (.slice a n cap)).run Tryz.prog w.drew = .ok xs.toArray w.drew := by
    rcases h.2 with ⟨rfl, rfl, rfl⟩ | ⟨g, cur, rfl, h1, h2, h3, h4, h5, h6⟩
    · have : xs = [] := List.eq_nil_of_length_eq_zero (by rw [hxl]; omega)
      subst this
      exact run_firstCells_none w.drew i0.size 0 0 0
    · refine run_firstCells_some (P := Tryz.prog) w.drew i0.size n ⟨g, 0, none⟩ n cap xs (by rw [hz1, hxl]) (fun j u hj => ?_)
      obtain ⟨g', e', hc⟩ := h.cell hj
      simp only [Option.some.injEq, Addr.mk.injEq, and_true] at e'
      subst e'
      rw [addr_add, Nat.zero_add]
      exact hc
  by_cases hroom : n + m ≤ cap
  · rcases h.2 with ⟨_, _, _⟩ | ⟨g, cur, rfl, h1, h2, h3, h4, h5, h6⟩
    · omega
    · have hcm : (n + m) * k ≤ cap * k := Nat.mul_le_mul_right k hroom
      have hst := run_storeCells_at Tryz.prog g (n * k) e news 0 cur w h2 (by rw [hnl]; rw [Nat.add_mul] at hcm; omega) hs.one
      simp only [Nat.add_zero] at hst
      refine ⟨some ⟨g, 0, none⟩, cap, w.setRow g (cur.toList.take (n * k) ++ news ++ cur.toList.drop (n * k + news.length)).toArray, ?_, ⟨hall, .inr ⟨g, _, rfl, h1, setRow_heap w g cur _ e _ h2, hroom, h4, ?_, ?_⟩⟩, ?_, fun y hy => .inl hy⟩
      · rcases hs'.kind with ⟨e', hk⟩ | hk <;> simp [Builtin.append_, run_underlying hu, sizeOf, typeInfo, hi0, hz1, hs.len, hroom, hs.cells, Addr.add_lit, hst]
      · simp only [List.size_toArray, List.length_append, List.length_take, List.length_drop, Array.length_toList]
        rw [Nat.add_mul] at hcm
        omega
      · rw [h6, ← hall]
        exact List.take_left
      · exact ⟨rfl, rfl, rfl, by simp, fun k _ hn => setRow_other w g k _ (by simpa [ob] using hn)⟩
  · have hge := grownCap_ge w (n + m) cap e
    have hfit : Builtin.nextslicecap (n + m) cap * i0.bytes ≤ 281474976710656 := growslice_fits (by omega) (by
      rw [hz2]
      have := Nat.mul_le_mul hl hby
      omega)
    have hr := run_append_grow_src (P := Tryz.prog) w t t ty e i0 _ hu hi0 hz0 a n cap xs hold x m news hs' (by omega) (by omega) hfit
    refine ⟨_, _, _, hr, ⟨hall, .inr ⟨w.heap.size, _, rfl, hB, heap_alloc_new w.drew _, hge, grownCap_le_maxLen w _ _ _ (by unfold maxLen; omega), ?_, ?_⟩⟩, (Kp.refl _ w).drew.alloc _, fun y hy => .inr (by simp [ob] at hy; omega)⟩
    · rw [Array.size_append, size_zeroCells, hz]
      simp only [List.size_toArray, hall]
      rw [← Nat.add_mul]
      exact Nat.mul_le_mul_right k (by omega)
    · simp only [Array.toList_append]
      rw [← hall]
      exact List.take_left
end

theorem wpList_krow {ops : Array Oper} {rest : List Oper} {o : Oper} {ac : Act} {w : World} {Q : Exit → Act → World → Prop} (hw : Region.wanted o (yielded ops ac.tmps) = true) (s x : Operand) (t : TypeId)
    (ho : o.op = .call { callee := .builtin .append, args := #[s, x], argTypes := #[t, t] }) {e : TypeId} {k by_ : Nat} {z : Value} (hu : Tryz.prog.underlying t = some (.slice e)) (hi : (Tryz.prog.info? e).map (fun i => (i.zero, i.size, i.bytes)) = some (some z, k, by_)) (hz : z.cells.size = k) (hby : by_ ≤ 1000)
    {B : Nat} {a : Option Addr} {n cap : Nat} {xs : List Value} (h : KRow e k B w a n cap xs) (hB : B ≤ w.heap.size) (xv : Value) (news : List Value) (m : Nat)
    (hs : ac.eval s = .slice a n cap) (hx : ac.eval x = xv) (hsrc : Src Tryz.prog k t xv m news w) (hm : n + m ≤ 100000) (N : Nat) (hN : n + m = N)
    (kk : ∀ a' cap' w', Hid (KRow e k B w' a' N cap' (xs ++ news)) → Hid (Kp (ob a) w w') → Hid (∀ x ∈ ob a', x ∈ ob a ∨ w.heap.size ≤ x) → wpList Tryz.prog ops Q rest (ac.put o.dst (.slice a' N cap')) w') : wpList Tryz.prog ops Q (o :: rest) ac w := by
  subst hN
  obtain ⟨a', cap', w', hr, h1, h2, h3⟩ := krow_app hu hi hz hby h hB o.type xv news m hsrc hm
  refine wpList_step fun K hK => ?_
  rw [if_pos hw]
  unfold Oper.wp execOp
  simp only [ho, resolve, invoke, builtin, Sem.run_bind, Sem.run_pure, Result.andThen_ok, List.map_toArray, List.map_cons, List.map_nil, hs, hx, hr]
  exact hK _ _ (kk a' cap' w' h1 h2 h3)
/-- One element that was just built. -/
theorem src_built {t e : TypeId} {k : Nat} (hu : Tryz.prog.underlying t = some (.slice e)) {w : World} {g c : Nat} {cs : Array Value} {T : TypeId} {fr : Nat × Nat} (h : w.heap[g]? = some (.cells cs T fr)) (hl : cs.size = k) (h1 : ∀ u ∈ cs.toList, u.oneCell' = true) : Src Tryz.prog k t (.slice (some ⟨g, 0, none⟩) 1 c) 1 cs.toList w := by
  refine Src.ofSlice w hu ⟨g, 0, none⟩ 1 c cs.toList (by simp [hl]) (fun j u hj => ?_) h1
  rw [addr_add, Nat.zero_add, cell_of_row w g j _ _ _ h]
  simpa using hj

/-- A row of one's own as a thing. -/
def KwT (e : TypeId) (k : Nat) (a : Option Addr) (n cap : Nat) (xs : List Value) : Thing where
  holds B w F := KRow e k B w a n cap xs ∧ F = ob a
  kp := fun ⟨h1, h2⟩ hk hS => ⟨h1.kp hk (fun x hx => hS x (by rw [h2]; exact hx)), h2⟩
  lo := fun ⟨h1, h2⟩ x hx => h1.lo x (by rw [← h2]; exact hx)
  base := fun ⟨h1, h2⟩ hC => ⟨h1.base hC, h2⟩
section
variable {w0 w w' : World} {l1 r : List Thing} {e : TypeId} {k : Nat} {a a' : Option Addr} {n cap n' cap' : Nat} {xs ys : List Value}
theorem kw_nil (e : TypeId) (k : Nat) (hz : Zoo w0 w r) : Zoo w0 w (KwT e k none 0 0 [] :: r) := by
  obtain ⟨X, h1, hk⟩ := hz
  exact ⟨X, ⟨[], X, ⟨krow_nil _ _ _ _, rfl⟩, h1, fun _ hx => by simp at hx, rfl⟩, hk⟩
theorem kw_row (hz : Zoo w0 w (l1 ++ KwT e k a n cap xs :: r)) : KRow e k w0.heap.size w a n cap xs := by
  obtain ⟨F, h1, _⟩ := hz.at_
  exact h1.1
theorem kw_app (hz : Zoo w0 w (l1 ++ KwT e k a n cap xs :: r)) (h1 : KRow e k w0.heap.size w' a' n' cap' ys) (h2 : Kp (ob a) w w') (h3 : ∀ x ∈ ob a', x ∈ ob a ∨ w.heap.size ≤ x) : Zoo w0 w' (l1 ++ KwT e k a' n' cap' ys :: r) := by
  obtain ⟨F, ⟨g1, g2⟩, k2⟩ := hz.at_
  subst g2
  exact k2 _ _ ⟨ob a', ⟨h1, rfl⟩, h2, h3⟩
end
end
/- The desk's cut: the words of a line, by its contract. -/
section
open Go.RowKit
attribute [local go_sem ↓] Go.wp_at_zero Go.wp_at_succ

def strs (ws : List (List UInt8)) : List Value := ws.map fun l => .string ⟨l.toArray⟩
theorem strs_len (ws : List (List UInt8)) : (strs ws).length = ws.length := by simp [strs]
theorem strs_app (ws vs : List (List UInt8)) : strs (ws ++ vs) = strs ws ++ strs vs := by simp [strs]
theorem strs_one (ws : List (List UInt8)) : ∀ u ∈ strs ws, u.oneCell' = true := by
  intro u hu
  obtain ⟨_, _, rfl⟩ := List.mem_map.1 hu
  rfl
theorem strs_at {ws : List (List UInt8)} {k : Nat} {l : List UInt8} (h : ws[k]? = some l) : (strs ws)[k]? = some (.string ⟨l.toArray⟩) := by simp [strs, h]
theorem Tryz.infoS : (Tryz.prog.info? 9).map (fun i => (i.zero, i.size, i.bytes)) = some (some (.string ⟨#[]⟩), 1, 16) := by kernel_rfl
/-- Words in memory: behind a slice's address. -/
def Wrd (w : World) (a : Option Addr) (ws : List (List UInt8)) : Prop := 0 < ws.length → ∃ g o, a = some ⟨g, o, none⟩ ∧ ∀ k l, ws[k]? = some l → w.cell? ⟨g, o + k, none⟩ = some (.string ⟨l.toArray⟩)
theorem Wrd.kp0 {w w' : World} {a : Option Addr} {ws : List (List UInt8)} (h : Wrd w a ws) (hk : Kp [] w w') : Wrd w' a ws := fun hp => by
  obtain ⟨g, o, e, h1⟩ := h hp
  exact ⟨g, o, e, fun k l hl => hk.cell (by simp) (h1 k l hl)⟩
theorem krow_wrd {B : Nat} {w : World} {a : Option Addr} {n cap : Nat} {ws : List (List UInt8)} (h : KRow 9 1 B w a n cap (strs ws)) : Wrd w a ws := fun hp => by
  obtain ⟨h0, h1⟩ := h
  rw [strs_len, Nat.mul_one] at h0
  rcases h1 with ⟨_, e, _⟩ | ⟨g, cur, e, _, hb, _, _, _, ht⟩
  · omega
  · refine ⟨g, 0, e, fun k l hl => ?_⟩
    have hk := (List.getElem?_eq_some_iff.1 hl).1
    have h2 : cur[k]? = some (.string ⟨l.toArray⟩) := by
      have h3 := strs_at hl
      rw [← ht, Nat.mul_one, List.getElem?_take_of_lt (by omega)] at h3
      simpa using h3
    rw [Nat.zero_add]
    exact cell_of_block hb h2
/-- Rows of one word. -/
theorem src_strs {w : World} {g : Nat} {cs : Array Value} {T : TypeId} (ws : List (List UInt8)) (hb : w.heap[g]? = some (.cells cs T (0, 0))) (hc : cs.toList = strs ws) (c : Nat) : Src Tryz.prog 1 22 (.slice (some ⟨g, 0, none⟩) ws.length c) ws.length (strs ws) w := by
  refine Src.ofSlice w Tryz.underlying22 ⟨g, 0, none⟩ ws.length c (strs ws) (by rw [strs_len]; omega) ?_ (strs_one ws)
  intro j u hj
  have h1 : cs[j]? = some u := by
    have h2 : cs.toList[j]? = some u := by rw [hc]; exact hj
    simpa using h2
  have h3 := cell_of_block (i := j) hb h1
  have h4 : (⟨g, 0, none⟩ : Addr).add j = ⟨g, j, none⟩ := by simp only [Addr.add]; split <;> simp_all
  rw [h4]; exact h3

def slLen : Value → Nat
  | .slice _ n _ => n
  | _ => 0
def CutEnd (l : List UInt8) (w : World) (e : Ending) (w' : World) : Prop := ∃ (ws : List (List UInt8)) (a : Option Addr) (cap : Nat), ws = (wds l).take 5 ∧ e = .returned (.slice a ws.length cap) ∧ KRow 9 1 w.heap.size w' a ws.length cap (strs ws) ∧ Kp [] w w'
theorem wds_take (acc : List (List UInt8)) (r : List UInt8) (h : acc.length ≤ 5) : (acc ++ wds r).take 5 = acc ++ (wds r).take (5 - acc.length) := by
  rw [List.take_append, List.take_of_length_le h]
set_option maxHeartbeats 1000000 in
theorem dcut (l : List UInt8) (w : World) (hg : Gnd w) (hl : l.length ≤ 10000) :
    Calls Tryz.prog 23 #[.string ⟨l.toArray⟩] w fun e w' => CutEnd l w e w' := by
  have HG := hide hg
  clear hg
  have hu : Tryz.prog.underlying 22 = some (.slice 9) := Tryz.underlying22
  go_enter Tryz.func23, Tryz.ntmps23
  go_wp2_with fail
  go_loopw [0, 3] (fun t0 t3 wr => ∃ (r : List UInt8) (acc : List (List UInt8)) (a : Option Addr) (n cap : Nat), t0 = .string ⟨r.toArray⟩ ∧ t3 = .slice a n cap ∧ n ≤ 5 ∧ r.length ≤ 10000 ∧ Hid (n = acc.length) ∧ Hid (wds l = acc ++ wds r) ∧ Hid (KRow 9 1 w.heap.size wr a n cap (strs acc)) ∧ Hid (Kp [] w wr)) (fun _ t3 _ => 5 - (slLen t3))
  case atStart => exact ⟨l, [], none, 0, 0, rfl, rfl, by omega, hl, rfl, rfl, krow_nil _ _ _ _, Kp.refl _ _⟩
  case round =>
    obtain ⟨r, acc, a, n, cap, rfl, rfl, hn5, hr, HN, HW, HR, HK⟩ := hrel
    have HG2 := hide (gnd_kp (unhide HG) (unhide HK))
    have hsz := (unhide HK).size
    by_cases h5 : n = 5
    · subst h5
      have fin : CutEnd l w (.returned (.slice a 5 cap)) wr := by
        refine ⟨acc, a, cap, ?_, ?_, ?_, unhide HK⟩
        · rw [unhide HW, wds_take acc r (by have := unhide HN; omega), ← unhide HN]; simp
        · rw [← unhide HN]
        · rw [← unhide HN]; exact unhide HR
      have HF := hide fin
      clear fin
      go_wp2_with fail
      go_ret
      exact unhide HF
    · have i1 : (n : Int) ≤ 4 := by omega
      obtain ⟨r2, hr2⟩ : ∃ r2, Lib.trimLeftB r 32 = r2 := ⟨_, rfl⟩
      have hst := strim r wr
      have hr3 : r2.length ≤ 10000 := by have := trim_len r; rw [hr2] at this; omega
      have hw2 := wds_trim r
      rw [hr2] at hst hw2
      have HS := hide hst
      cases r2 with
      | nil =>
        have fin : CutEnd l w (.returned (.slice a n cap)) wr := by
          refine ⟨acc, a, cap, ?_, ?_, ?_, unhide HK⟩
          · rw [unhide HW, ← hw2, wds_take acc [] (by have := unhide HN; omega)]; simp [wds, wgo]
          · rw [← unhide HN]
          · rw [← unhide HN]; exact unhide HR
        have HF := hide fin
        clear fin hst hw2 hr2
        go_wp2_with (go_at_call 45; refine (unhide HS).mono ?_; rintro e w' ⟨rfl, rfl⟩)
        go_ret
        exact unhide HF
      | cons c q =>
        have hc := trim_head hr2
        have hcut := wds_cut (r := q) hc
        have HW2 := hide (show wds l = (acc ++ [(Lib.cut (c :: q) [32]).1]) ++ wds (Lib.cut (c :: q) [32]).2.1 by rw [unhide HW, ← hw2, hcut]; simp)
        have hlen := cut_len (c :: q)
        have HC := hide (scut (c :: q) wr (unhide HG2) (by omega))
        generalize (Lib.cut (c :: q) [32]).1 = w1 at *
        generalize (Lib.cut (c :: q) [32]).2.1 = w2 at *
        clear hst hw2 hr2 hc hcut
        go_wp2_with (first | (go_at_call 45; refine (unhide HS).mono ?_; rintro e w' ⟨rfl, rfl⟩) | (go_at_call 46; refine (unhide HC).mono ?_; rintro e wc ⟨b, rfl, hkc⟩; have HKC := hide hkc; have hszc := hkc.size; clear hkc) | (at_builtin; refine wpList_krow (by rfl) (.tmp 20) (.tmp 22) 22 (by rfl) hu Tryz.infoS rfl (by omega) ((unhide HR).kp0 ((unhide HKC).alloc _)) (by simp; omega) (.slice (some ⟨wc.heap.size, 0, none⟩) 1 1) (strs [w1]) 1 (by rfl) (by rfl) (src_strs [w1] (heap_alloc_new wc _) rfl 1) (by omega) (n + 1) rfl ?_; intro a' cap' wd HR' HK' HX'))
        refine ⟨⟨w2, acc ++ [w1], a', n + 1, cap', rfl, rfl, by omega, by omega, ?_, HW2, ?_, ?_⟩, by simp [slLen]; omega⟩
        · rw [List.length_append, ← unhide HN]; rfl
        · rw [strs_app]; exact HR'
        · exact ((unhide HK).trans0 ((unhide HKC).alloc _)).trans (unhide HK') (fun x hx => .inr ((unhide HR).lo x hx).1)
end
/- Lines that came in, opened. -/
section
open Go.ChangeShapes Go.WideShapes Go.ChangeAt Go.RowKit

theorem mk_data8 (s : ByteArray) : ByteArray.mk s.data.toList.toArray = s := by cases s; simp
def LnD {H : Type} (d : DataW H) (ls : List (List UInt8)) : Prop := ls = [] ∨ ∃ sp, d = .slice (ls.map fun l => .lit (.string l)) sp
theorem lines_of {H : Type} {enc : TypeId × Value → H} {W : World} {a : Option Addr} {len cap : Nat} {d : DataW H} {p : List MemPlace}
    (h : DataW.Trod enc Tryz.prog W 0 (fun _ => true) true 22 (.slice a len cap) d p) :
    ∃ ls : List (List UInt8), len = ls.length ∧ Wrd W a ls ∧ len ≤ cap ∧ cap ≤ maxLen ∧ (a = none → cap = 0) ∧ LnD d ls := by
  obtain ⟨fuel, hf⟩ := h
  rcases open_strings Tryz.underlying22 Tryz.underlying9 (by kernel_rfl) hf with ⟨hcs, hx⟩ | ⟨ad, l2, c2, ss, hcs, _, hlc, hcm, hsl, hx, hcell, _⟩
  · simp [Value.cells] at hcs
    obtain ⟨rfl, rfl, rfl⟩ := hcs
    exact ⟨[], rfl, fun hp => by simp at hp, Nat.le_refl _, by unfold maxLen; omega, fun _ => rfl, .inl rfl⟩
  · simp [Value.cells] at hcs
    obtain ⟨rfl, rfl, rfl⟩ := hcs
    simp only [if_true] at hsl
    refine ⟨(ss.take len).map (·.data.toList), by simp; omega, fun hp => ?_, hlc, hcm, (fun e => (by cases e)), .inr ⟨ChangeShapes.strs (ss.drop len), ?_⟩⟩
    · have hl0 : 0 < len := by simp at hp; omega
      obtain ⟨b, o, sp⟩ := ad
      have hsp : sp = none := by
        have := hcell 0 (by omega)
        simpa [Addr.add] using World.cell?_spot this
      subst hsp
      refine ⟨b, o, rfl, fun k l hl => ?_⟩
      rw [List.getElem?_map] at hl
      obtain ⟨s, hs, rfl⟩ := Option.map_eq_some_iff.1 hl
      rw [List.getElem?_take] at hs
      split at hs
      · have hk := (List.getElem?_eq_some_iff.1 hs).1
        have := hcell k hk
        rw [addr_add, List.getD_eq_getElem?_getD, hs] at this
        rw [mk_data8]
        exact this
      · cases hs
    · cases hx
      congr 1
      unfold ChangeShapes.strs
      rw [List.map_map]
      rfl
theorem weightsAll_in {H : Type} {P : Program} {e : TypeId} {d : DataW H} : ∀ {ds : List (DataW H)}, d ∈ ds → ∀ n ∈ d.weights P e, n ∈ DataW.weightsAll P e ds
  | x :: r, hd, n, hn => by
    simp only [DataW.weightsAll, List.mem_append]
    rcases List.mem_cons.1 hd with e1 | e1
    · subst e1; exact .inl hn
    · exact .inr (weightsAll_in e1 n hn)
theorem sized_lines {H : Type} {ts : List TypeId} {ds : List (DataW H)} (h : (DataW.weightsEach Tryz.prog ts ds).all (· ≤ reachBytes) = true) {j : Nat} {d : DataW H} {ls : List (List UInt8)} (ht : ts[j]? = some 22) (hd : ds[j]? = some d) (hl : LnD d ls) : ∀ l ∈ ls, l.length ≤ 140737488355327 := by
  intro l hm
  rcases hl with e | ⟨sp, e⟩
  · subst e; cases hm
  · subst e
    have := List.all_eq_true.1 h _ (DataW.weights_mem_each ht hd l.length (by
      simp only [DataW.weights, Tryz.underlying22, List.mem_cons, List.mem_append]
      exact .inr (.inl (weightsAll_in (d := .lit (.string l)) (List.mem_map.2 ⟨l, hm, rfl⟩) _ (by simp [DataW.weights])))))
    have h2 : l.length ≤ reachBytes := of_decide_eq_true this
    unfold reachBytes at h2
    omega
end
/- Values as texts: meanByte, Mean, by their contracts. -/
section
open Go.RowKit
attribute [local go_sem ↓] Go.wp_at_zero Go.wp_at_succ

theorem tbelow_drewN {B : Nat} {a w : World} (h : Below B a w) (n : Nat) : Below B a (w.drewN n) := h.trans ⟨rfl, rfl, rfl, Nat.le_refl _, fun _ _ => rfl⟩
/-- What meanByte tells. -/
def mbv : Option (UInt8 × Nat) → Value
  | none => .tuple #[.int .u8 0, .int .i64 0, .bool false]
  | some (c, n) => .tuple #[.int .u8 (c.toNat : Int), .int .i64 (n : Int), .bool true]
theorem get8 (s : ByteArray) (k : Nat) (h : k < s.size) : s.data.toList.drop k = s[k] :: s.data.toList.drop (k + 1) := by
  rw [List.drop_eq_getElem_cons (by rw [len8]; exact h)]
  rfl
theorem mby_c {s : ByteArray} (h0 : 0 < s.size) : ∃ r, s.data.toList = s[0] :: r := ⟨_, by have := get8 s 0 h0; rwa [List.drop_zero] at this⟩
theorem mby_p {s : ByteArray} (h0 : 0 < s.size) (hp : pln s[0] = true) : mby s.data.toList = some (s[0], 1) := by
  obtain ⟨r, hr⟩ := mby_c h0
  rw [hr]
  show (if pln s[0] = true then some (s[0], 1) else _) = _
  rw [if_pos hp]
theorem mby_m {s : ByteArray} (h0 : 0 < s.size) (hp : pln s[0] = false) (hm : s[0].toNat ≠ 92) : mby s.data.toList = none := by
  obtain ⟨r, hr⟩ := mby_c h0
  rw [hr]
  show (if pln s[0] = true then some (s[0], 1) else if s[0].toNat ≠ 92 then none else _) = _
  rw [if_neg (by rw [hp]; simp), if_pos hm]
theorem mby_s {s : ByteArray} (h0 : 0 < s.size) (h3 : s.size < 3) (hp : pln s[0] = false) : mby s.data.toList = none := by
  obtain ⟨r, hr⟩ := mby_c h0
  have hl := len8 s
  rw [hr] at hl
  rw [hr]
  have hq : ¬ pln s[0] = true := by rw [hp]; simp
  match r, hl with
  | [], _ =>
    show (if pln s[0] = true then some (s[0], 1) else if s[0].toNat ≠ 92 then none else none) = _
    rw [if_neg hq, ite_self]
  | [_], _ =>
    show (if pln s[0] = true then some (s[0], 1) else if s[0].toNat ≠ 92 then none else none) = _
    rw [if_neg hq, ite_self]
  | _ :: _ :: _, hl => simp at hl; omega
theorem mby_t {s : ByteArray} (h3 : 2 < s.size) (hp : pln s[0] = false) (hm : s[0].toNat = 92) : mby s.data.toList = if idx s[1] < 0 ∨ idx s[2] < 0 then none else if pln (UInt8.ofNat (16 * (idx s[1]).toNat + (idx s[2]).toNat)) = true then none else some (UInt8.ofNat (16 * (idx s[1]).toNat + (idx s[2]).toNat), 3) := by
  have e : s.data.toList = s[0] :: s[1] :: s[2] :: s.data.toList.drop 3 := by
    have h0 := get8 s 0 (by omega)
    rw [List.drop_zero] at h0
    rw [h0, get8 s 1 (by omega), get8 s 2 (by omega)]
    rfl
  have hq : ¬ pln s[0] = true := by rw [hp]; simp
  have hm2 : ¬ s[0].toNat ≠ 92 := fun q => q hm
  rw [e]
  show (if pln s[0] = true then some (s[0], 1) else if s[0].toNat ≠ 92 then none else _) = _
  rw [if_neg hq, if_neg hm2]
theorem dgs_eq : (ByteArray.mk #[48, 49, 50, 51, 52, 53, 54, 55, 56, 57, 97, 98, 99, 100, 101, 102]).data.toList = dgs := rfl
theorem or_byte0 : ∀ i j : Fin 16, bits BinOp.or IntKind.i64 ((i.val : Int) * 16) (j.val : Int) % 256 = ((UInt8.ofNat (16 * i.val + j.val)).toNat : Int) := by decide +kernel
theorem or_byte (i j : Nat) (hi : i < 16) (hj : j < 16) : bits BinOp.or IntKind.i64 ((i : Int) * 16) (j : Int) % 256 = ((UInt8.ofNat (16 * i + j)).toNat : Int) := or_byte0 ⟨i, hi⟩ ⟨j, hj⟩
set_option maxHeartbeats 1000000 in
theorem tmeanByte (s : ByteArray) (w : World) (h0 : 0 < s.size) (hs : s.size ≤ 30000) :
    Calls Tryz.prog 157 #[.string s] w fun e w' => e = .returned (mbv (mby s.data.toList)) ∧ Below w.heap.size w w' := by
  have i0 : (0 : Int) < (s.size : Int) := by omega
  by_cases hp : pln s[0] = true
  · rw [mby_p h0 hp]
    go_enter Tryz.func157, Tryz.ntmps157
    go_wp2_with fail
    refine (tplain s[0] w).mono ?_
    rintro e w' ⟨rfl, hw'⟩
    subst w'
    rw [hp]
    go_wp2_with fail
    exact bodyPost_ret (v := mbv (some (s[0], 1))) (by simp [results, Tryz.results157, go_sem, mbv]) rfl ⟨rfl, Below.refl _ _⟩
  · have hp2 : pln s[0] = false := by simpa using hp
    clear hp
    by_cases hm : s[0].toNat = 92
    · by_cases h3 : s.size < 3
      · rw [mby_s h0 h3 hp2]
        have i3 : (s.size : Int) < 3 := by omega
        have HM := thide hm
        clear hm
        go_enter Tryz.func157, Tryz.ntmps157
        go_wp2_with fail
        refine (tplain s[0] w).mono ?_
        rintro e w' ⟨rfl, hw'⟩
        subst w'
        rw [hp2]
        have im : (s[0].toNat : Int) = 92 := by have := tunhide HM; omega
        go_wp2_with fail
        exact bodyPost_ret (v := mbv none) (by simp [results, Tryz.results157, go_sem, mbv]) rfl ⟨rfl, Below.refl _ _⟩
      · have h3' : 2 < s.size := by omega
        have ho := mby_t h3' hp2 hm
        generalize mby s.data.toList = o at *
        have HO := thide ho
        clear ho
        have i3 : ¬ (s.size : Int) < 3 := by omega
        have i1 : (1 : Int) < (s.size : Int) := by omega
        have i2 : (2 : Int) < (s.size : Int) := by omega
        have j1 : 1 < s.size := by omega
        have HM := thide hm
        clear hm
        go_enter Tryz.func157, Tryz.ntmps157
        go_wp2_with fail
        refine (tplain s[0] w).mono ?_
        rintro e w' ⟨rfl, hw'⟩
        subst w'
        rw [hp2]
        have im : (s[0].toNat : Int) = 92 := by have := tunhide HM; omega
        go_wp2_with fail
        go_quiet ((go_at_call 175; exact Calls.quiet_of_same (tindex _ _ _)))
        rw [dgs_eq]
        have ha := idx_facts s[1]
        have hb := idx_facts s[2]
        have ha2 := idx_ge s[1]
        have hb2 := idx_ge s[2]
        rw [show Lib.indexByte dgs s[1] = idx s[1] from rfl, show Lib.indexByte dgs s[2] = idx s[2] from rfl]
        have HW := thide (tbelow_drewN (Below.refl w.heap.size w) nq)
        generalize w.drewN nq = W at *
        clear im HM
        generalize idx s[1] = x at *
        generalize idx s[2] = y at *
        by_cases hx : x < 0
        · have ho : o = none := by rw [tunhide HO, if_pos (Or.inl hx)]
          clear ha hb HO
          go_wp2_with fail
          exact bodyPost_ret (v := mbv none) (by simp [results, Tryz.results157, go_sem, mbv]) rfl ⟨by rw [ho], HW⟩
        · by_cases hy : y < 0
          · have ho : o = none := by rw [tunhide HO, if_pos (Or.inr hy)]
            clear ha hb HO
            go_wp2_with fail
            exact bodyPost_ret (v := mbv none) (by simp [results, Tryz.results157, go_sem, mbv]) rfl ⟨by first | rfl | rw [ho], HW⟩
          · have HO2 := thide (tunhide HO)
            rw [if_neg (fun q => q.elim hx hy)] at HO2
            have hx16 := (ha.resolve_left hx).1
            have hy16 := (hb.resolve_left hy).1
            clear ha hb ha2 hb2
            obtain ⟨i, rfl⟩ : ∃ i : Nat, x = (i : Int) := ⟨x.toNat, by omega⟩
            obtain ⟨j, rfl⟩ : ∃ j : Nat, y = (j : Int) := ⟨y.toNat, by omega⟩
            simp only [Int.toNat_natCast] at HO2
            clear HO
            have HE := thide (or_byte i j (by omega) (by omega))
            go_wp2_with fail
            rw [tunhide HE]
            clear HE
            generalize UInt8.ofNat (16 * i + j) = c at *
            refine (tplain c W).mono ?_
            rintro e w' ⟨rfl, hw'⟩
            subst w'
            by_cases hc : pln c = true
            · have ho : o = none := by rw [tunhide HO2, if_pos hc]
              clear HO2
              rw [hc]
              go_wp2_with fail
              exact bodyPost_ret (v := mbv none) (by simp [results, Tryz.results157, go_sem, mbv]) rfl ⟨by first | rfl | rw [ho], HW⟩
            · have ho : o = some (c, 3) := by rw [tunhide HO2, if_neg hc]
              have hc2 : pln c = false := by simpa using hc
              clear HO2
              rw [hc2]
              go_wp2_with fail
              exact bodyPost_ret (v := mbv (some (c, 3))) (by simp [results, Tryz.results157, go_sem, mbv]) rfl ⟨by first | rfl | rw [ho], HW⟩
    · rw [mby_m h0 hp2 hm]
      have i3 : ¬ (s[0].toNat : Int) = 92 := by omega
      go_enter Tryz.func157, Tryz.ntmps157
      go_wp2_with fail
      refine (tplain s[0] w).mono ?_
      rintro e w' ⟨rfl, hw'⟩
      subst w'
      rw [hp2]
      go_wp2_with fail
      exact bodyPost_ret (v := mbv none) (by simp [results, Tryz.results157, go_sem, mbv]) rfl ⟨rfl, Below.refl _ _⟩
end
/- Values as texts: Mean, by its contract. -/
section
open Go.RowKit
attribute [local go_sem ↓] Go.wp_at_zero Go.wp_at_succ

/-- What Mean tells. -/
def mnv : Option (List UInt8) → Value
  | none => .tuple #[.string ⟨#[]⟩, .bool false]
  | some y => .tuple #[.string ⟨y.toArray⟩, .bool true]
def strSz : Value → Nat
  | .string b => b.size
  | _ => 0
theorem drop8 (r : ByteArray) (n : Nat) : (r.extract n r.size).data.toList = r.data.toList.drop n := by
  rw [ByteArray.data_extract, Array.toList_extract, List.extract_eq_take_drop]
  exact List.take_of_length_le (by rw [List.length_drop, len8]; omega)
theorem size_drop8 (r : ByteArray) (n : Nat) : (r.extract n r.size).size = r.size - n := by
  rw [← len8, drop8, List.length_drop, len8]
theorem empty8 {r : ByteArray} (h : r.size = 0) : r = ⟨#[]⟩ := by
  apply ByteArray.ext
  have h1 := len8 r
  rw [h] at h1
  have h2 := List.eq_nil_of_length_eq_zero h1
  have : r.data.toList = (#[] : Array UInt8).toList := h2
  exact Array.toList_inj.1 this
theorem Bld.kp {B b : Nat} {l : List UInt8} {w w' : World} (h : Bld B b l w) (hk : Below w.heap.size w w') : Bld B b l w' := by
  have hg : w.grownBy w' none := ⟨hk.os, hk.tape, hk.output, hk.size, fun k h _ => hk.block k h⟩
  have at_ : ∀ {p : Value}, Lib.BuilderAtF 44 5 B b p (Lib.byteCells l) w → Lib.BuilderAtF 44 5 B b p (Lib.byteCells l) w' := fun h => by
    have hlt := h.lt
    obtain ⟨hB, v, hb, hown, hne⟩ := h
    exact ⟨hB, v, (hk.block b hlt).trans hb, hown.kept hg (by cases v.ownBlock <;> simp), hne⟩
  exact h.imp at_ at_
/-- From acc and what is left on. -/
def MnI (l acc r : List UInt8) : Prop := mn l = (mn r).map (acc ++ ·)
theorem mni_0 (l : List UInt8) : MnI l [] l := by unfold MnI; cases mn l <;> simp
theorem MnI.step {l acc r : List UInt8} (h : MnI l acc r) (hr : r ≠ []) {c : UInt8} {n : Nat} (hm : mby r = some (c, n)) : MnI l (acc ++ [c]) (r.drop n) := by
  unfold MnI at *
  rw [h, mn_step hr, hm]
  show ((mn (r.drop n)).map (c :: ·)).map (acc ++ ·) = (mn (r.drop n)).map (acc ++ [c] ++ ·)
  generalize mn (r.drop n) = z
  cases z <;> simp
theorem MnI.none_ {l acc r : List UInt8} (h : MnI l acc r) (hr : r ≠ []) (hm : mby r = none) : mn l = none := by
  unfold MnI at h
  rw [h, mn_step hr, hm]; rfl
theorem MnI.fin {l acc : List UInt8} (h : MnI l acc []) : mn l = some acc := by
  unfold MnI at h
  rw [h, mn_nil]; simp
theorem mby_n {r : List UInt8} {c : UInt8} {n : Nat} (hm : mby r = some (c, n)) : 1 ≤ n ∧ n ≤ r.length := by
  obtain ⟨h1, h2⟩ := mby_pre hm
  have h3 := congrArg List.length h2
  rw [List.length_append, List.length_drop] at h3
  rcases shb_len c with h | h <;> omega
set_option maxHeartbeats 1000000 in
theorem tmean (s : ByteArray) (w : World) (hs : s.size ≤ 30000) :
    Calls Tryz.prog 124 #[.string s] w fun e w' => e = .returned (mnv (mn s.data.toList)) ∧ Below w.heap.size w w' := by
  have HN := thide (bld_new w)
  have HW := thide ((Below.refl w.heap.size w).alloc (Nat.le_refl _) (.cells #[.pointer none, .slice none 0 0] 44))
  obtain ⟨o, ho⟩ : ∃ o, mn s.data.toList = o := ⟨_, rfl⟩
  have HO := thide ho
  rw [ho]
  clear ho
  go_enter Tryz.func124, Tryz.ntmps124
  go_wp2_with fail
  generalize w.alloc (.cells #[.pointer none, .slice none 0 0] 44) = W at *
  go_loopw [0] (fun t wr => ∃ (r : ByteArray) (acc : List UInt8), t = .string r ∧ acc.length + r.size ≤ s.size ∧ Hid (MnI s.data.toList acc r.data.toList) ∧ Hid (Bld w.heap.size w.heap.size acc wr) ∧ Hid (Below w.heap.size w wr)) (fun t _ => strSz t)
  case atStart => exact ⟨s, [], rfl, by simp, mni_0 _, HN, HW⟩
  case round =>
    obtain ⟨r, acc, rfl, hl, HI, HB, HL⟩ := hrel
    have hz := (tunhide HL).size
    by_cases h0 : r.size = 0
    · have e := empty8 h0
      subst e
      have ho : o = some acc := by rw [← tunhide HO]; exact (tunhide HI).fin
      clear HO HI
      go_wp2_with fail
      refine (bstring w.heap.size w.heap.size _ wr (tunhide HB) hz).mono ?_
      rintro e w1 ⟨rfl, k1⟩
      have K1 := thide k1
      clear k1
      go_wp2_with fail
      exact bodyPost_ret (v := mnv (some acc)) (by simp [results, Tryz.results124, go_sem, mnv]) rfl ⟨by first | rfl | rw [ho], (tunhide HL).trans (tunhide K1)⟩
    · have hne : ¬ r = ⟨#[]⟩ := fun e => h0 (by rw [e]; rfl)
      have hb : r.toList.isEmpty = false := by rw [← decide_eq_emptyBytes]; exact decide_eq_false hne
      have hrl : r.data.toList ≠ [] := fun e => h0 (by rw [← len8, e]; rfl)
      have HR := thide hrl
      clear hrl
      have HC := thide (tmeanByte r wr (by omega) (by omega))
      obtain ⟨m, hm⟩ : ∃ m, mby r.data.toList = m := ⟨_, rfl⟩
      rw [hm] at HC
      have HM := thide hm
      clear hm
      go_wp2_with fail
      refine (tunhide HC).mono ?_
      rintro e w1 ⟨rfl, k1⟩
      clear HC
      have hz1 := k1.size
      have HB1 := thide ((tunhide HB).kp k1)
      have K1 := thide (k1.mono hz)
      clear k1
      cases m with
      | none =>
        have ho : o = none := by rw [← tunhide HO]; exact (tunhide HI).none_ (tunhide HR) (tunhide HM)
        clear HO HI HM
        simp only [mbv]
        go_wp2_with fail
        exact bodyPost_ret (v := mnv none) (by simp [results, Tryz.results124, go_sem, mnv]) rfl ⟨by first | rfl | rw [ho], (tunhide HL).trans (tunhide K1)⟩
      | some x =>
        obtain ⟨c, n⟩ := x
        simp only [mbv]
        have hn := mby_n (tunhide HM)
        rw [len8] at hn
        have HS := thide ((tunhide HI).step (tunhide HR) (tunhide HM))
        have n1 : (0 : Int) ≤ (n : Int) := by omega
        have n2 : (n : Int) ≤ (r.size : Int) := by omega
        go_wp2_with fail
        refine (bwrite w.heap.size w.heap.size acc c w1 (tunhide HB1) (by omega) (by omega)).mono ?_
        rintro e w2 ⟨rfl, h2, k2⟩
        have H2 := thide h2
        have K2 := thide k2
        clear h2 k2
        go_wp2_with fail
        refine ⟨⟨r.extract n r.size, acc ++ [c], rfl, ?_, ?_, H2, (tunhide HL).trans ((tunhide K1).trans (tunhide K2))⟩, ?_⟩
        · rw [size_drop8]; simp; omega
        · rw [drop8]; exact HS
        · simp only [strSz]; rw [size_drop8]; omega
end
/- The desk's number and meant, by their contracts. -/
section
open Go.RowKit
attribute [local go_sem ↓] Go.wp_at_zero Go.wp_at_succ

def NuEnd (l : List UInt8) (w : World) (e : Ending) (w' : World) : Prop := ∃ (z : Int) (b : Bool), e = .returned (.tuple #[.int .i64 z, .bool b]) ∧ num l = (if b = true then some z else none) ∧ Kp [] w w'
theorem nuEnd_mk {l : List UInt8} {w w' : World} (z : Int) (b : Bool) (h : num l = (if b = true then some z else none)) (hk : Kp [] w w') : NuEnd l w (.returned (.tuple #[.int .i64 z, .bool b])) w' := ⟨z, b, rfl, h, hk⟩
set_option maxHeartbeats 1000000 in
theorem dnum (l : List UInt8) (w : World) (hg : Gnd w) (hl : l.length ≤ 10000) :
    Calls Tryz.prog 85 #[.string ⟨l.toArray⟩] w fun e w' => NuEnd l w e w' := by
  have HA := hide (satoi l w hg (by omega))
  have HG := hide hg
  clear hg
  go_enter Tryz.func85, Tryz.ntmps85
  go_wp2_with (first | (go_at_call 35; refine (unhide HA).mono ?_; rintro e w1 ⟨z, ev, rfl, hz, hk⟩; have HK := hide hk; have HG1 := hide (gnd_kp (unhide HG) hk); clear hk; rcases hz with ⟨ha, rfl, hb1, hb2⟩ | ⟨ha, T, p, rfl⟩) | (go_at_call 25; refine (sitoa z w1 (unhide HG1) hb1 hb2).mono ?_; rintro e w2 ⟨rfl, hk2⟩; have HK2 := hide hk2; clear hk2))
  · go_ret2
    refine nuEnd_mk z _ ?_ ((unhide HK).trans0 (unhide HK2))
    unfold num
    rw [ha]
    by_cases h : Lib.itoa z = l <;> simp [h]
  · go_ret2
    refine nuEnd_mk z _ ?_ (unhide HK)
    unfold num
    cases hc : Lib.atoiAll l with
    | ok v => exact absurd hc (ha v)
    | _ => rfl
def MtEnd (l : List UInt8) (w : World) (e : Ending) (w' : World) : Prop := ∃ (s : List UInt8) (b : Bool), e = .returned (.tuple #[.string ⟨s.toArray⟩, .bool b]) ∧ bts l = (if b = true then some s else none) ∧ s.length ≤ l.length ∧ Kp [] w w'
theorem mtEnd_mk {l : List UInt8} {w w' : World} (s : List UInt8) (b : Bool) (h : bts l = (if b = true then some s else none)) (hs : s.length ≤ l.length) (hk : Kp [] w w') : MtEnd l w (.returned (.tuple #[.string ⟨s.toArray⟩, .bool b])) w' := ⟨s, b, rfl, h, hs, hk⟩
theorem mn_len {l y : List UInt8} (h : mn l = some y) : y.length ≤ l.length := by
  have := sh_mn _ l y (Nat.le_refl _) h
  rw [← this]
  exact (sh_len y).1
set_option maxHeartbeats 1000000 in
theorem dmeant (l : List UInt8) (w : World) (hl : l.length ≤ 10000) :
    Calls Tryz.prog 86 #[.string ⟨l.toArray⟩] w fun e w' => MtEnd l w e w' := by
  have hcp := scutp l w
  by_cases hp : ∃ r, l = 61 :: r
  · obtain ⟨r, rfl⟩ := hp
    have e1 : Lib.trimPrefix (61 :: r) [61] = r := by simp [Lib.trimPrefix, Lib.hasPrefix]
    have e2 : Lib.hasPrefix (61 :: r) [61] = true := by simp [Lib.hasPrefix]
    rw [e1, e2] at hcp
    have HC := hide hcp
    have hb : bts (61 :: r) = mn r := by simp [bts]
    have htm := tmean ⟨r.toArray⟩ w (by rw [size8]; simp at hl; omega)
    rw [mk8] at htm
    have HM := hide htm
    clear hcp e1 e2 htm
    go_enter Tryz.func86, Tryz.ntmps86
    cases hm : mn r with
    | none =>
      rw [hm] at HM hb
      go_wp2_with (first | (go_at_call 123; refine (unhide HC).mono ?_; rintro e w1 ⟨rfl, rfl⟩) | (go_at_call 124; refine (unhide HM).mono ?_; rintro e w2 ⟨rfl, hk2⟩; have HK2 := hide (kp_of_below hk2); clear hk2; unfold mnv))
      go_ret2
      exact mtEnd_mk [] false (by rw [hb]; rfl) (by simp) (unhide HK2)
    | some y =>
      have hy := mn_len hm
      rw [hm] at HM hb
      go_wp2_with (first | (go_at_call 123; refine (unhide HC).mono ?_; rintro e w1 ⟨rfl, rfl⟩) | (go_at_call 124; refine (unhide HM).mono ?_; rintro e w2 ⟨rfl, hk2⟩; have HK2 := hide (kp_of_below hk2); clear hk2; unfold mnv))
      go_ret2
      exact mtEnd_mk y true (by rw [hb]; rfl) (by simp; omega) (unhide HK2)
  · have e2 : Lib.hasPrefix l [61] = false := by
      cases l with
      | nil => rfl
      | cons c r =>
        have : c ≠ 61 := fun e => hp ⟨r, by rw [e]⟩
        simp [Lib.hasPrefix, List.isPrefixOf, Ne.symm this]
    rw [e2] at hcp
    have HC := hide hcp
    have hb : bts l = none := by
      cases l with
      | nil => rfl
      | cons c r =>
        have : c ≠ 61 := fun e => hp ⟨r, by rw [e]⟩
        simp [bts, this]
    clear hcp e2 hp
    go_enter Tryz.func86, Tryz.ntmps86
    go_wp2_with (go_at_call 123; refine (unhide HC).mono ?_; rintro e w1 ⟨rfl, rfl⟩)
    go_ret2
    exact mtEnd_mk [] false (by rw [hb]; rfl) (by simp) (Kp.refl _ _)
end
/- A region that draws its order, walked in an order of the prover's own. -/
section
open Go.RowKit

theorem drop_at {l rest : List Oper} {i : Nat} {o : Oper} (h : l.drop i = o :: rest) : l.toArray[i]? = some o := by
  have := congrArg List.head? h
  rw [List.head?_drop] at this
  simpa using this
theorem wpAnyH_tk {P : Program} {md : Region.Mode} {l rest : List Oper} {Q : Exit → Act → World → Prop} {S : World → Prop} {i : Nat} {oi : Oper} {v : Value} {fuel : Nat} {listed : Array Bool} {a : Act} {w : World} (hi : l.drop i = oi :: rest)
    (hs : Region.noSelect l.toArray = true) (hf : Region.free md l.toArray listed i = true) (hr : (Region.ready md l.toArray listed).contains i = true)
    (hQ : ∀ c a w, Q (.panic c) (a.put oi.dst v) w → Q (.panic c) a w) (hy : YieldsIf P l.toArray S oi v a) (hS : S w)
    (h : wpAnyH P md l.toArray Q S fuel (listed.setIfInBounds i true) (a.put oi.dst v) w) : wpAnyH P md l.toArray Q S (fuel + 1) listed a w := wpAnyH_take (drop_at hi) hs hf hr hQ hy hS h
theorem wpAnyH_only {P : Program} {md : Region.Mode} {l rest : List Oper} {Q : Exit → Act → World → Prop} {S : World → Prop} {i : Nat} {o : Oper} {fuel : Nat} {listed : Array Bool} {a : Act} {w : World} (hi : l.drop i = o :: rest) (hr : Region.ready md l.toArray listed = [i])
    (h : ∀ K' : Act → World → Prop, Shut (∀ a w, S w → (S w → wpAnyH P md l.toArray Q S fuel (listed.setIfInBounds i true) a w) → K' a w) → if Region.wanted o (yielded l.toArray a.tmps) = true then Oper.wp P o a w K' Q else K' (a.put o.dst undef) w) :
    wpAnyH P md l.toArray Q S (fuel + 1) listed a w := wpAnyH_ready hr (by simp) (AllReadyH.cons (drop_at hi) h AllReadyH.nil)
end
/- vaultBegun answers true. -/
section
open Go.RowKit
attribute [local go_sem ↓] Go.wp_at_zero Go.wp_at_succ

section
variable {w0 w : World} {vb tb gb : Nat} {f : Nat → List Ver} {n : Nat} {cs : List (List Ver)} {r : List Thing} {D D2 : Nat} {md y md2 y2 : Int} {rs rs2 : List Int} {ws ws2 : List Ver}
theorem b_begin {md at_ : Int} (hb : bcode f n md at_ = 0) (hz : Zoo w0 w (VltT vb tb gb f n cs [] :: r)) :
    Calls Tryz.prog 131 #[.pointer (some ⟨vb, 0, none⟩), .int .i64 md, .int .i64 at_] w fun e w' => ∃ D, e = .returned (.tuple #[.pointer (some ⟨D, 0, none⟩), .int .i64 0]) ∧ Hid (Zoo w0 w' (VltT vb tb gb f n cs [] :: BoxT D (dcells md (bat n md at_) (ncell [] [])) 162 :: r)) := by
  obtain ⟨F, ⟨Ft, Fg, k⟩, _⟩ := zoo_at0 hz
  refine (vbegin md at_ w k).mono ?_
  rintro e w' (⟨_, D, rfl, hD, hd, hk⟩ | ⟨h, _⟩)
  · exact ⟨D, rfl, Zoo.put_ (l1 := [VltT vb tb gb f n cs []]) hz (F := [D]) ⟨hd, rfl, hD⟩ hk⟩
  · exact absurd hb h
theorem b_none {md at_ z : Int} (hb : bcode f n md at_ = z) (h0 : z ≠ 0) (hz : Zoo w0 w (VltT vb tb gb f n cs [] :: r)) :
    Calls Tryz.prog 131 #[.pointer (some ⟨vb, 0, none⟩), .int .i64 md, .int .i64 at_] w fun e w' => e = .returned (.tuple #[.pointer none, .int .i64 z]) ∧ Hid (Zoo w0 w' (VltT vb tb gb f n cs [] :: r)) := by
  obtain ⟨F, ⟨Ft, Fg, k⟩, _⟩ := zoo_at0 hz
  refine (vbegin md at_ w k).mono ?_
  rintro e w' (⟨h, _⟩ | ⟨_, rfl, hk⟩)
  · exact absurd (hb.symm.trans h) h0
  · exact ⟨by rw [hb], hz.kp0 hk⟩
theorem b_put1 (k : Int) (t : Bool) (s : ByteArray) (hs : s.size ≤ maxLen) (hz : Zoo w0 w (VltT vb tb gb f n cs [] :: BoxT D (dcells md y (ncell rs ws)) 162 :: r)) :
    Calls Tryz.prog 134 #[.pointer (some ⟨D, 0, none⟩), .int .i64 k, .agg #[.bool t, .string s]] w fun e w' => e = .returned (.int .i64 (dpc md k t s)) ∧ Hid (Zoo w0 w' (VltT vb tb gb f n cs [] :: BoxT D (dcells md y (ncell rs (dpw md ws k t s))) 162 :: r)) := by
  obtain ⟨F, ⟨h1, h2, h3⟩, k2⟩ := zoo_at1 hz
  exact (dput57 k t s w h1 hs).mono (fun e w' ⟨he, hd, hk⟩ => ⟨he, k2 _ _ ⟨F, ⟨hd, h2, h3⟩, by rw [h2]; exact hk, fun x hx => .inl hx⟩⟩)
theorem b_commit (hv : VI f n cs) (hd : Ded w D md y rs ws) (hw : WOk ws) (hz : Zoo w0 w (VltT vb tb gb f n cs [] :: r)) :
    Calls Tryz.prog 136 #[.pointer (some ⟨vb, 0, none⟩), .pointer (some ⟨D, 0, none⟩)] w fun e w' => e = .returned (.tuple #[.int .i64 (vnum f n cs md y rs ws), .int .i64 (vcode f cs md y rs ws)]) ∧ Hid (Zoo w0 w' (VltT vb tb gb (vf f n cs md y rs ws) (vn f n cs md y rs ws) (vcs f cs md y rs ws) [] :: r)) := by
  obtain ⟨F, ⟨Ft, Fg, k⟩, k2⟩ := zoo_at0 hz
  exact (vcommit w k hv hd hw).mono (fun e w' ⟨he, hc⟩ => ⟨he, k2 _ _ hc⟩)
theorem b_crash (hz : Zoo w0 w (VltT vb tb gb f n cs [] :: r)) :
    Calls Tryz.prog 88 #[.pointer (some ⟨vb, 0, none⟩)] w fun e w' => e = .returned (.tuple #[]) ∧ ∃ tb', w'.cell? ⟨vb, 0, none⟩ = some (.pointer (some ⟨tb', 0, none⟩)) ∧ Hid (Zoo w0 w' (VltT vb tb' gb (wal0 cs) cs.length cs [] :: r)) := by
  obtain ⟨F, ⟨Ft, Fg, k⟩, k2⟩ := zoo_at0 hz
  refine (vcrash w k).mono ?_
  rintro e w' ⟨rfl, tb', hc⟩
  have hz' := k2 _ _ hc
  obtain ⟨F', ⟨Ft', Fg', k'⟩, _⟩ := zoo_at0 hz'
  exact ⟨rfl, tb', k'.c0, hz'⟩
end

end
/- A vault at the head of a list of things: its contracts, and plain words of deeds that only read. -/
section
open Go.RowKit

theorem zoo_mem {w0 w : World} {o : Thing} {os : List Thing} (h : Zoo w0 w os) (hm : o ∈ os) : ∃ F, o.holds w0.heap.size w F := by
  obtain ⟨l1, l2, rfl⟩ := List.append_of_mem hm
  obtain ⟨F, h1, _⟩ := h.at_
  exact ⟨F, h1⟩
theorem zoo_swap {w0 w : World} {A V : Thing} {r : List Thing} (hz : Zoo w0 w (A :: V :: r)) : Zoo w0 w (V :: A :: r) := hz.perm (List.Perm.swap V A r)
section
variable {w0 w : World} {vb tb gb : Nat} {f : Nat → List Ver} {n : Nat} {cs : List (List Ver)} {r : List Thing} {D : Nat} {md y : Int} {rs : List Int} {ws : List Ver}
theorem l_get (k : Int) (hz : Zoo w0 w (VltT vb tb gb f n cs [] :: BoxT D (dcells md y (ncell rs ws)) 162 :: r)) :
    Calls Tryz.prog 133 #[.pointer (some ⟨D, 0, none⟩), .pointer (some ⟨tb, 0, none⟩), .int .i64 k] w fun e w' => e = .returned (.tuple #[.agg #[.bool (dg f n y ws k).t, .string (dg f n y ws k).s], .int .i64 (dg f n y ws k).a]) ∧
      Hid (Zoo w0 w' (VltT vb tb gb f n cs [] :: BoxT D (dcells md y (ncell (dr f n y rs ws k) ws)) 162 :: r)) := by
  obtain ⟨F1, ⟨Ft, Fg, k1⟩, _⟩ := zoo_at0 hz
  obtain ⟨F, ⟨h1, h2, h3⟩, k2⟩ := zoo_at1 hz
  exact (dget55 k w k1.t h1).mono (fun e w' ⟨he, hd, hk⟩ => ⟨he, k2 _ _ ⟨F, ⟨hd, h2, h3⟩, by rw [h2]; exact hk, fun x hx => .inl hx⟩⟩)
theorem l_last (hz : Zoo w0 w (VltT vb tb gb f n cs [] :: r)) : Calls Tryz.prog 26 #[.pointer (some ⟨tb, 0, none⟩)] w fun e w' => e = .returned (.int .i64 n) ∧ w' = w := by
  obtain ⟨F1, ⟨Ft, Fg, k1⟩, _⟩ := zoo_at0 hz
  exact tlast38 w k1.t
theorem l_first (hz : Zoo w0 w (VltT vb tb gb f n cs [] :: r)) : Calls Tryz.prog 27 #[.pointer (some ⟨tb, 0, none⟩)] w fun e w' => e = .returned (.int .i64 (fmx f 8)) ∧ w' = w := by
  obtain ⟨F1, ⟨Ft, Fg, k1⟩, _⟩ := zoo_at0 hz
  exact tfirst42 w k1.t
end
end
/- What the laws of torn and crashed vaults meet: all keys' values in variables, beside a vault. -/
section
open Go.RowKit

/-- Two operations may come up next. -/
theorem wpAnyH_two {P : Program} {md : Region.Mode} {l r1 r2 : List Oper} {Q : Exit → Act → World → Prop} {S : World → Prop} {i j : Nat} {oi oj : Oper} {fuel : Nat} {listed : Array Bool} {a : Act} {w : World} (hi : l.drop i = oi :: r1) (hj : l.drop j = oj :: r2) (hr : Region.ready md l.toArray listed = [i, j])
    (h1 : ∀ K' : Act → World → Prop, Shut (∀ a w, S w → (S w → wpAnyH P md l.toArray Q S fuel (listed.setIfInBounds i true) a w) → K' a w) → if Region.wanted oi (yielded l.toArray a.tmps) = true then Oper.wp P oi a w K' Q else K' (a.put oi.dst undef) w)
    (h2 : ∀ K' : Act → World → Prop, Shut (∀ a w, S w → (S w → wpAnyH P md l.toArray Q S fuel (listed.setIfInBounds j true) a w) → K' a w) → if Region.wanted oj (yielded l.toArray a.tmps) = true then Oper.wp P oj a w K' Q else K' (a.put oj.dst undef) w) :
    wpAnyH P md l.toArray Q S (fuel + 1) listed a w := wpAnyH_ready hr (by simp) (AllReadyH.cons (drop_at hi) h1 (AllReadyH.cons (drop_at hj) h2 AllReadyH.nil))

section
variable {w0 w : World} {vb tb gb : Nat} {f : Nat → List Ver} {n : Nat} {cs : List (List Ver)} {r : List Thing} {D : Nat} {md y : Int} {rs : List Int} {ws : List Ver} {V X : Thing}
theorem b_tear (keep : Int) (hv : VI f n cs) (hd : Ded w D md y rs ws) (hw : WOk ws) (hz : Zoo w0 w (VltT vb tb gb f n cs [] :: r)) :
    Calls Tryz.prog 137 #[.pointer (some ⟨vb, 0, none⟩), .pointer (some ⟨D, 0, none⟩), .int .i64 keep] w fun e w' => e = .returned (.tuple #[.int .i64 (tnum f cs md y rs ws keep), .int .i64 (vcode f cs md y rs ws)]) ∧ ∃ tb', Hid (Zoo w0 w' (VltT vb tb' gb (wal0 (tcs f cs md y rs ws keep)) (tcs f cs md y rs ws keep).length (tcs f cs md y rs ws keep) [] :: r)) := by
  obtain ⟨F, ⟨Ft, Fg, k⟩, k2⟩ := zoo_at0 hz
  exact (vtear keep w k hv hd hw).mono (fun e w' ⟨he, tb', hc⟩ => ⟨he, tb', k2 _ _ hc⟩)
end
theorem zoo_varm {w0 w : World} {os : List Thing} {p : Nat} {c : Array Value} {T : TypeId} (hz : Zoo w0 w os) (hm : BoxT p c T ∈ os) : w.heap[p]? = some (.cells c T (0, 0)) := by
  obtain ⟨F, h1, _⟩ := zoo_mem hz hm
  exact h1
end
/- Plain words for halls: what a deed sees is of one time; what is refused changes nothing. -/
section
open Go.RowKit

theorem shw_clm {f : Nat → List Ver} {n : Nat} {l y : Int} (hi : Inv f n) (hl : l ≤ y) : shw (clm f l 8) n y 8 = shw f n y 8 := shw_congr (Nat.le_refl _) (fun _ hj => tr_clm hi hl hj)
theorem shw_vf {f : Nat → List Ver} {n : Nat} {cs : List (List Ver)} {md y' y : Int} {rs : List Int} {ws : List Ver} (hi : Inv f n) (hv : VI f n cs) (hy : y ≤ n) : shw (vf f n cs md y' rs ws) (vn f n cs md y' rs ws) y 8 = shw f n y 8 := by
  unfold vf vn
  split
  · rename_i h
    have hl : lcode cs (wk ws 8) = 0 := by unfold vdone at h; simp at h; exact h.2.2
    have e := (hv.room hl).2.1
    exact shw_congr (Nat.le_refl _) (fun j hj => by have := tr_later hi (wk ws 8) hy hj; rw [e] at this; exact this)
  · rfl
/-- The kinds of a step, one by one. -/
inductive HKind (h : HSt) (x : HStep) : HSt → Ev → Prop
  | kind : (x.d < 1 ∨ 10 < x.d) → HKind h x h (evc 3)
  | clear : x.d = 8 → HKind h x { h with f := clm h.f (least h.n h.seat 5) 8 } (evn 0 (cln h.f (least h.n h.seat 5) 8 : Nat))
  | crash : x.d = 9 → HKind h x ⟨wal0 h.cs, h.cs.length, h.cs, fun _ => none⟩ ev0
  | range : (1 ≤ x.d ∧ x.d ≤ 10 ∧ x.d ≠ 8 ∧ x.d ≠ 9) → ¬ (0 ≤ x.s ∧ x.s < 5) → HKind h x h (evc 1)
  | began : x.d = 1 → (0 ≤ x.s ∧ x.s < 5) → h.seat x.s.toNat = none → bcode h.f h.n x.md x.at_ = 0 → HKind h x (sit h x.s (some ⟨x.md, bat h.n x.md x.at_, [], []⟩)) (evc 0)
  | beganNot : x.d = 1 → (0 ≤ x.s ∧ x.s < 5) → h.seat x.s.toNat = none → ¬ bcode h.f h.n x.md x.at_ = 0 → HKind h x h (evc (bcode h.f h.n x.md x.at_))
  | none_ : (2 ≤ x.d ∧ x.d ≤ 10 ∧ x.d ≠ 8 ∧ x.d ≠ 9) → (0 ≤ x.s ∧ x.s < 5) → h.seat x.s.toNat = none → HKind h x h (evc 7)
  | there (d : Dp) : x.d = 1 → (0 ≤ x.s ∧ x.s < 5) → h.seat x.s.toNat = some d → HKind h x h (evc 8)
  | get (d : Dp) : x.d = 2 → (0 ≤ x.s ∧ x.s < 5) → h.seat x.s.toNat = some d → HKind h x (sit h x.s (some { d with rs := dr h.f h.n d.y d.rs d.ws x.key })) ⟨(dg h.f h.n d.y d.ws x.key).a, 0, (dg h.f h.n d.y d.ws x.key).t, (dg h.f h.n d.y d.ws x.key).s, []⟩
  | put (d : Dp) : x.d = 3 → (0 ≤ x.s ∧ x.s < 5) → h.seat x.s.toNat = some d → HKind h x (sit h x.s (some { d with ws := dpw d.md d.ws x.key true x.b })) (evc (dpc d.md x.key true x.b))
  | drop (d : Dp) : x.d = 4 → (0 ≤ x.s ∧ x.s < 5) → h.seat x.s.toNat = some d → HKind h x (sit h x.s (some { d with ws := dpw d.md d.ws x.key false ⟨#[]⟩ })) (evc (dpc d.md x.key false ⟨#[]⟩))
  | list (d : Dp) : x.d = 5 → (0 ≤ x.s ∧ x.s < 5) → h.seat x.s.toNat = some d → HKind h x (sit h x.s (some { d with rs := (dls h.f h.n d.y d.ws d.rs x.key x.to_).2.2 })) ⟨(dls h.f h.n d.y d.ws d.rs x.key x.to_).2.1, 0, false, ⟨#[]⟩, (dls h.f h.n d.y d.ws d.rs x.key x.to_).1⟩
  | commit (d : Dp) : x.d = 6 → (0 ≤ x.s ∧ x.s < 5) → h.seat x.s.toNat = some d → HKind h x ⟨vf h.f h.n h.cs d.md d.y d.rs d.ws, vn h.f h.n h.cs d.md d.y d.rs d.ws, vcs h.f h.cs d.md d.y d.rs d.ws, upd h.seat x.s.toNat none⟩ (evn (vcode h.f h.cs d.md d.y d.rs d.ws) (vnum h.f h.n h.cs d.md d.y d.rs d.ws))
  | tear (d : Dp) : x.d = 10 → (0 ≤ x.s ∧ x.s < 5) → h.seat x.s.toNat = some d → HKind h x ⟨wal0 (tcs h.f h.cs d.md d.y d.rs d.ws x.keep), (tcs h.f h.cs d.md d.y d.rs d.ws x.keep).length, tcs h.f h.cs d.md d.y d.rs d.ws x.keep, fun _ => none⟩ (evn (vcode h.f h.cs d.md d.y d.rs d.ws) (tnum h.f h.cs d.md d.y d.rs d.ws x.keep))
  | abort (d : Dp) : x.d = 7 → (0 ≤ x.s ∧ x.s < 5) → h.seat x.s.toNat = some d → HKind h x (sit h x.s none) ev0
theorem hkind (h : HSt) (x : HStep) : HKind h x (hdo h x) (hev h x) := by
  unfold hdo hev
  by_cases c0 : x.d < 1 ∨ 10 < x.d
  · rw [if_pos c0, if_pos c0]; exact .kind c0
  rw [if_neg c0, if_neg c0]
  by_cases c8 : x.d = 8
  · rw [if_pos c8, if_pos c8]; exact .clear c8
  rw [if_neg c8, if_neg c8]
  by_cases c9 : x.d = 9
  · rw [if_pos c9, if_pos c9]; exact .crash c9
  rw [if_neg c9, if_neg c9]
  by_cases hs : 0 ≤ x.s ∧ x.s < 5
  · have hns : ¬ ¬ (0 ≤ x.s ∧ x.s < 5) := fun q => q hs
    rw [if_neg hns, if_neg hns]
    cases hd : h.seat x.s.toNat with
    | none =>
      dsimp only
      by_cases c1 : x.d = 1
      · rw [if_pos c1]
        by_cases hb : bcode h.f h.n x.md x.at_ = 0
        · rw [if_pos ⟨c1, hb⟩, hb]; exact .began c1 hs hd hb
        · rw [if_neg (fun q => hb q.2)]; exact .beganNot c1 hs hd hb
      · rw [if_neg (fun q => c1 q.1), if_neg c1]; exact .none_ (by omega) hs hd
    | some d =>
      dsimp only
      by_cases c1 : x.d = 1
      · rw [if_pos c1, if_pos c1]; exact .there d c1 hs hd
      rw [if_neg c1, if_neg c1]
      by_cases c2 : x.d = 2
      · rw [if_pos c2, if_pos c2]; exact .get d c2 hs hd
      rw [if_neg c2, if_neg c2]
      by_cases c3 : x.d = 3
      · rw [if_pos c3, if_pos c3]; exact .put d c3 hs hd
      rw [if_neg c3, if_neg c3]
      by_cases c4 : x.d = 4
      · rw [if_pos c4, if_pos c4]; exact .drop d c4 hs hd
      rw [if_neg c4, if_neg c4]
      by_cases c5 : x.d = 5
      · rw [if_pos c5, if_pos c5]; exact .list d c5 hs hd
      rw [if_neg c5, if_neg c5]
      by_cases c6 : x.d = 6
      · rw [if_pos c6, if_pos c6]; exact .commit d c6 hs hd
      rw [if_neg c6, if_neg c6]
      by_cases c10 : x.d = 10
      · rw [if_pos c10, if_pos c10]; exact .tear d c10 hs hd
      rw [if_neg c10, if_neg c10]
      exact .abort d (by omega) hs hd
  · rw [if_pos hs, if_pos hs]; exact .range (by omega) hs

/-- What the seat's deed sees of all keys. -/
def hsee (h : HSt) (d : Dp) : Nat → Ver := lay (shw h.f h.n d.y 8) d.ws
theorem dg_see {h : HSt} (hi : HInv h) {s : Nat} {d : Dp} (hs : h.seat s = some d) {k : Nat} (hk : k < 8) : dg h.f h.n d.y d.ws k = ⟨0, (hsee h d k).t, (hsee h d k).s⟩ := by
  obtain ⟨k1, k2⟩ := hi.known s d hs
  have ha := tr_known hi.inv k1 k2 hk
  have hkb : keyB (k : Int) = true := by simp [keyB]; omega
  unfold dg hsee lay
  rw [if_pos hkb]
  cases lwr d.ws k with
  | some v => rfl
  | none =>
    dsimp only
    unfold shw
    rw [if_pos hk]
    rw [← ha]
theorem sit_at {h : HSt} {x : Int} {e : Option Dp} {s : Nat} {d' : Dp} (h' : (sit h x e).seat s = some d') : (s = x.toNat ∧ e = some d') ∨ (s ≠ x.toNat ∧ h.seat s = some d') := by
  simp only [sit, upd_at] at h'
  split at h'
  · exact .inl ⟨by assumption, h'⟩
  · exact .inr ⟨by assumption, h'⟩
/-- What a deed sees is of one time: whatever is done, what it sees is what it saw, and what it wrote itself. -/
theorem hdo_sees {h : HSt} (hi : HInv h) (x : HStep) {s : Nat} {d d' : Dp} (hs : h.seat s = some d) (hs' : (hdo h x).seat s = some d') :
    d'.y = d.y ∧ d'.md = d.md ∧ shw (hdo h x).f (hdo h x).n d.y 8 = shw h.f h.n d.y 8 ∧
      (d'.ws = d.ws ∨ (x.s = s ∧ x.d = 3 ∧ d'.ws = dpw d.md d.ws x.key true x.b) ∨ (x.s = s ∧ x.d = 4 ∧ d'.ws = dpw d.md d.ws x.key false ⟨#[]⟩)) := by
  obtain ⟨k1, k2⟩ := hi.known s d hs
  have hk := hkind h x
  generalize hdo h x = h2 at *
  generalize hev h x = e at *
  have same : ∀ {d' : Dp}, h.seat s = some d' → d' = d := fun q => by rw [hs] at q; cases q; rfl
  cases hk with
  | kind c => have q := same hs'; subst q; exact ⟨rfl, rfl, rfl, .inl rfl⟩
  | clear c =>
    have q := same hs'
    subst q
    have h5 : s < 5 := by
      rcases Nat.lt_or_ge s 5 with q | q
      · exact q
      · rw [hi.five s q] at hs; cases hs
    exact ⟨rfl, rfl, shw_clm hi.inv ((least_le h.n h.seat 5).2 s _ h5 hs), .inl rfl⟩
  | crash c => cases hs'
  | range c1 c2 => have q := same hs'; subst q; exact ⟨rfl, rfl, rfl, .inl rfl⟩
  | began c1 c2 c3 c4 =>
    rcases sit_at hs' with ⟨q1, q2⟩ | ⟨q1, q2⟩
    · rw [← q1, hs] at c3; cases c3
    · have q := same q2; subst q; exact ⟨rfl, rfl, rfl, .inl rfl⟩
  | beganNot c1 c2 c3 c4 => have q := same hs'; subst q; exact ⟨rfl, rfl, rfl, .inl rfl⟩
  | none_ c1 c2 c3 => have q := same hs'; subst q; exact ⟨rfl, rfl, rfl, .inl rfl⟩
  | there d0 c1 c2 c3 => have q := same hs'; subst q; exact ⟨rfl, rfl, rfl, .inl rfl⟩
  | get d0 c1 c2 c3 =>
    rcases sit_at hs' with ⟨q1, q2⟩ | ⟨q1, q2⟩
    · rw [← q1] at c3; have q := same c3; subst q; cases q2; exact ⟨rfl, rfl, rfl, .inl rfl⟩
    · have q := same q2; subst q; exact ⟨rfl, rfl, rfl, .inl rfl⟩
  | put d0 c1 c2 c3 =>
    rcases sit_at hs' with ⟨q1, q2⟩ | ⟨q1, q2⟩
    · rw [← q1] at c3; have q := same c3; subst q; cases q2; exact ⟨rfl, rfl, rfl, .inr (.inl ⟨by omega, c1, rfl⟩)⟩
    · have q := same q2; subst q; exact ⟨rfl, rfl, rfl, .inl rfl⟩
  | drop d0 c1 c2 c3 =>
    rcases sit_at hs' with ⟨q1, q2⟩ | ⟨q1, q2⟩
    · rw [← q1] at c3; have q := same c3; subst q; cases q2; exact ⟨rfl, rfl, rfl, .inr (.inr ⟨by omega, c1, rfl⟩)⟩
    · have q := same q2; subst q; exact ⟨rfl, rfl, rfl, .inl rfl⟩
  | list d0 c1 c2 c3 =>
    rcases sit_at hs' with ⟨q1, q2⟩ | ⟨q1, q2⟩
    · rw [← q1] at c3; have q := same c3; subst q; cases q2; exact ⟨rfl, rfl, rfl, .inl rfl⟩
    · have q := same q2; subst q; exact ⟨rfl, rfl, rfl, .inl rfl⟩
  | commit d0 c1 c2 c3 =>
    simp only [upd_at] at hs'
    split at hs'
    · cases hs'
    · have q := same hs'; subst q; exact ⟨rfl, rfl, shw_vf hi.inv hi.vi k2, .inl rfl⟩
  | tear d0 c1 c2 c3 => cases hs'
  | abort d0 c1 c2 c3 =>
    rcases sit_at hs' with ⟨q1, q2⟩ | ⟨q1, q2⟩
    · cases q2
    · have q := same q2; subst q; exact ⟨rfl, rfl, rfl, .inl rfl⟩
end
/- A hall's memory as one thing: its box, its vault, its seats' deeds. -/
section
open Go.RowKit

/-- Things as one thing. -/
def ManyT (os : List Thing) : Thing where
  holds B w F := ZooF B w os F
  kp := fun h hk hS => ZooF.kp hk h hS
  lo := fun h => h.lo
  base := fun h hC => ZooF.base hC h
theorem zoof_app {B : Nat} {w : World} : ∀ {us vs : List Thing} {X : List Nat}, ZooF B w (us ++ vs) X → ∃ F Y, ZooF B w us F ∧ ZooF B w vs Y ∧ (∀ x, x ∈ F → x ∉ Y) ∧ X = F ++ Y
  | [], vs, X, h => ⟨[], X, rfl, h, fun _ hx => by simp at hx, rfl⟩
  | o :: us, vs, X, ⟨F, Y, h1, h2, h3, e⟩ => by
    obtain ⟨F1, Y1, k1, k2, k3, rfl⟩ := zoof_app h2
    refine ⟨F ++ F1, Y1, ⟨F, F1, h1, k1, fun x hx hy => h3 x hx (by simp [hy]), rfl⟩, k2, fun x hx hy => ?_, by rw [e, List.append_assoc]⟩
    rcases List.mem_append.1 hx with q | q
    · exact h3 x q (by simp [hy])
    · exact k3 x q hy
theorem zoof_join {B : Nat} {w : World} : ∀ {us vs : List Thing} {F Y : List Nat}, ZooF B w us F → ZooF B w vs Y → (∀ x, x ∈ F → x ∉ Y) → ZooF B w (us ++ vs) (F ++ Y)
  | [], vs, F, Y, h1, h2, _ => by rw [show F = [] from h1]; exact h2
  | o :: us, vs, F, Y, ⟨F1, F2, h1, h2, h3, e⟩, k, hd => by
    subst e
    refine ⟨F1, F2 ++ Y, h1, zoof_join h2 k (fun x hx => hd x (by simp [hx])), fun x hx hy => ?_, by rw [List.append_assoc]⟩
    rcases List.mem_append.1 hy with q | q
    · exact h3 x hx q
    · exact hd x (by simp [hx]) q
section
variable {w0 w w' : World} {os us r : List Thing}
theorem many_open (h : Zoo w0 w (ManyT os :: r)) : Zoo w0 w (os ++ r) := by
  obtain ⟨X, ⟨F, Y, h1, h2, h3, rfl⟩, hk⟩ := h
  exact ⟨F ++ Y, zoof_join h1 h2 h3, hk⟩
theorem many_close (h : Zoo w0 w (os ++ r)) : Zoo w0 w (ManyT os :: r) := by
  obtain ⟨X, h1, hk⟩ := h
  obtain ⟨F, Y, k1, k2, k3, rfl⟩ := zoof_app h1
  exact ⟨F ++ Y, ⟨F, Y, k1, k2, k3, rfl⟩, hk⟩
end

/-- A seat's deed in memory: its block, and what it is; none. -/
abbrev Sd := Option (Nat × Dp)
def OptT : Sd → Thing
  | none => ManyT []
  | some x => BoxT x.1 (dcells x.2.md x.2.y (ncell x.2.rs x.2.ws)) 162
def sp (o : Sd) : Value := .pointer (o.map fun x => ⟨x.1, 0, none⟩)
def hcells (vb : Nat) (st : Nat → Sd) : Array Value := #[.pointer (some ⟨vb, 0, none⟩), sp (st 0), sp (st 1), sp (st 2), sp (st 3), sp (st 4)]
def seats (st : Nat → Sd) : List Thing := [OptT (st 0), OptT (st 1), OptT (st 2), OptT (st 3), OptT (st 4)]
def Sts (st : Nat → Sd) (seat : Nat → Option Dp) : Prop := ∀ s, (st s).map Prod.snd = seat s
/-- The things of a hall. -/
def hth (hb vb tb gb : Nat) (h : HSt) (st : Nat → Sd) : List Thing := BoxT hb (hcells vb st) 59 :: VltT vb tb gb h.f h.n h.cs [] :: seats st
def HalT (hb : Nat) (h : HSt) : Thing where
  holds B w F := ∃ vb tb gb st, Sts st h.seat ∧ HInv h ∧ ZooF B w (hth hb vb tb gb h st) F
  kp := fun ⟨vb, tb, gb, st, h1, h2, h3⟩ hk hS => ⟨vb, tb, gb, st, h1, h2, ZooF.kp hk h3 hS⟩
  lo := fun ⟨_, _, _, _, _, _, h⟩ => h.lo
  base := fun ⟨vb, tb, gb, st, h1, h2, h3⟩ hC => ⟨vb, tb, gb, st, h1, h2, ZooF.base hC h3⟩
/-- A hall among things, its parts known. -/
def Hall (w0 w : World) (hb vb tb gb : Nat) (h : HSt) (st : Nat → Sd) (r : List Thing) : Prop := Zoo w0 w (BoxT hb (hcells vb st) 59 :: VltT vb tb gb h.f h.n h.cs [] :: (seats st ++ r))

section
variable {w0 w w' : World} {hb vb tb gb : Nat} {h h' : HSt} {st : Nat → Sd} {r : List Thing}
theorem hal_open (hz : Zoo w0 w (HalT hb h :: r)) : ∃ vb tb gb st, Sts st h.seat ∧ HInv h ∧ Hall w0 w hb vb tb gb h st r := by
  obtain ⟨X, ⟨F, Y, ⟨vb, tb, gb, st, h1, h2, k⟩, h4, h5, rfl⟩, hk⟩ := hz
  exact ⟨vb, tb, gb, st, h1, h2, F ++ Y, zoof_join k h4 h5, hk⟩
theorem hal_close (hs : Sts st h.seat) (hi : HInv h) (hz : Hall w0 w hb vb tb gb h st r) : Zoo w0 w (HalT hb h :: r) := by
  obtain ⟨X, h1, hk⟩ := hz
  obtain ⟨F, Y, k1, k2, k3, rfl⟩ := zoof_app (us := hth hb vb tb gb h st) (vs := r) h1
  exact ⟨F ++ Y, ⟨F, Y, ⟨vb, tb, gb, st, hs, hi, k1⟩, k2, k3, rfl⟩, hk⟩
theorem Hall.kp0 (hz : Hall w0 w hb vb tb gb h st r) (hk : Kp [] w w') : Hall w0 w' hb vb tb gb h st r := Zoo.kp0 hz hk
theorem Hall.vlt (hz : Hall w0 w hb vb tb gb h st r) : Zoo w0 w (VltT vb tb gb h.f h.n h.cs [] :: BoxT hb (hcells vb st) 59 :: (seats st ++ r)) := zoo_swap hz
theorem Hall.of_vlt {vb : Nat} {f : Nat → List Ver} {n : Nat} {cs : List (List Ver)} {seat : Nat → Option Dp} (hz : Zoo w0 w (VltT vb tb gb f n cs [] :: BoxT hb (hcells vb st) 59 :: (seats st ++ r))) : Hall w0 w hb vb tb gb ⟨f, n, cs, seat⟩ st r := zoo_swap hz
theorem Hall.box (hz : Hall w0 w hb vb tb gb h st r) : w.heap[hb]? = some (.cells (hcells vb st) 59 (0, 0)) := Zoo.var hz
theorem Hall.c0 (hz : Hall w0 w hb vb tb gb h st r) : w.cell? ⟨hb, 0, none⟩ = some (.pointer (some ⟨vb, 0, none⟩)) := cell_of_block hz.box rfl
theorem hcells_at (vb : Nat) (st : Nat → Sd) {s : Nat} (hs : s < 5) : (hcells vb st)[1 + s]? = some (sp (st s)) := by
  rcases (show s = 0 ∨ s = 1 ∨ s = 2 ∨ s = 3 ∨ s = 4 by omega) with e | e | e | e | e <;> subst e <;> rfl
theorem Hall.cs_ (hz : Hall w0 w hb vb tb gb h st r) {s : Nat} (hs : s < 5) : w.cell? ⟨hb, 1 + s, none⟩ = some (sp (st s)) := cell_of_block hz.box (hcells_at vb st hs)
theorem Hall.fz (hz : Hall w0 w hb vb tb gb h st r) (i : Nat) : w.frozen? ⟨hb, i, none⟩ = false := frozen_of_block i hz.box
theorem Hall.lt (hz : Hall w0 w hb vb tb gb h st r) : hb < w.heap.size := lt_of_block hz.box
theorem Hall.v0 (hz : Hall w0 w hb vb tb gb h st r) : w.cell? ⟨vb, 0, none⟩ = some (.pointer (some ⟨tb, 0, none⟩)) := by
  obtain ⟨F, ⟨Ft, Fg, k⟩, _⟩ := zoo_at1 hz
  exact k.c0
theorem Hall.vlt_ (hz : Hall w0 w hb vb tb gb h st r) : vb < w.heap.size := by
  obtain ⟨F, ⟨Ft, Fg, k⟩, _⟩ := zoo_at1 hz
  exact (k.lo vb k.vF).2
theorem Hall.base (hz : Hall w0 w hb vb tb gb h st r) : w0.heap.size ≤ w.heap.size := Zoo.base hz
/-- The seats' things, one of them at its place. -/
theorem seats_at (st : Nat → Sd) {s : Nat} (hs : s < 5) : ∃ l1 l2, seats st = l1 ++ OptT (st s) :: l2 ∧ ∀ d, seats (upd st s d) = l1 ++ OptT d :: l2 := by
  rcases (show s = 0 ∨ s = 1 ∨ s = 2 ∨ s = 3 ∨ s = 4 by omega) with e | e | e | e | e <;> subst e
  · exact ⟨[], [OptT (st 1), OptT (st 2), OptT (st 3), OptT (st 4)], rfl, fun d => by simp [seats, upd]⟩
  · exact ⟨[OptT (st 0)], [OptT (st 2), OptT (st 3), OptT (st 4)], rfl, fun d => by simp [seats, upd]⟩
  · exact ⟨[OptT (st 0), OptT (st 1)], [OptT (st 3), OptT (st 4)], rfl, fun d => by simp [seats, upd]⟩
  · exact ⟨[OptT (st 0), OptT (st 1), OptT (st 2)], [OptT (st 4)], rfl, fun d => by simp [seats, upd]⟩
  · exact ⟨[OptT (st 0), OptT (st 1), OptT (st 2), OptT (st 3)], [], rfl, fun d => by simp [seats, upd]⟩
/-- A seat's deed, moved to the head: behind the vault; and back, another one in its place, the box as it was. -/
theorem Hall.out (hz : Hall w0 w hb vb tb gb h st r) {s : Nat} (hs : s < 5) : ∃ rest, Zoo w0 w (VltT vb tb gb h.f h.n h.cs [] :: OptT (st s) :: rest) ∧
    ∀ (w' : World) (tb' : Nat) (f : Nat → List Ver) (n : Nat) (cs : List (List Ver)) (d : Sd) (seat : Nat → Option Dp), sp d = sp (st s) → Zoo w0 w' (VltT vb tb' gb f n cs [] :: OptT d :: rest) → Hall w0 w' hb vb tb' gb ⟨f, n, cs, seat⟩ (upd st s d) r := by
  obtain ⟨l1, l2, e1, e2⟩ := seats_at st hs
  have hc : ∀ d, sp d = sp (st s) → hcells vb (upd st s d) = hcells vb st := fun d hd => by
    rcases (show s = 0 ∨ s = 1 ∨ s = 2 ∨ s = 3 ∨ s = 4 by omega) with e | e | e | e | e <;> subst e <;> simp [hcells, upd, hd]
  refine ⟨BoxT hb (hcells vb st) 59 :: (l1 ++ (l2 ++ r)), ?_, fun w' tb' f n cs d seat hd hz' => ?_⟩
  · have h1 := Hall.vlt hz
    rw [e1, List.append_assoc] at h1
    refine h1.perm (List.Perm.cons _ ?_)
    exact (List.perm_middle (l₁ := BoxT hb (hcells vb st) 59 :: l1))
  · refine Hall.of_vlt ?_
    rw [e2, hc d hd, List.append_assoc]
    refine hz'.perm (List.Perm.cons _ ?_)
    exact (List.perm_middle (l₁ := BoxT hb (hcells vb st) 59 :: l1)).symm
theorem Hall.out2 (hz : Hall w0 w hb vb tb gb h st r) {s : Nat} (hs : s < 5) : ∃ rest, Zoo w0 w (VltT vb tb gb h.f h.n h.cs [] :: OptT (st s) :: rest) ∧
    ∀ (w' : World) (tb' : Nat) (f : Nat → List Ver) (n : Nat) (cs : List (List Ver)) (d : Sd) (P : Thing) (seat : Nat → Option Dp), sp d = sp (st s) → Zoo w0 w' (VltT vb tb' gb f n cs [] :: OptT d :: P :: rest) → Hall w0 w' hb vb tb' gb ⟨f, n, cs, seat⟩ (upd st s d) (P :: r) := by
  obtain ⟨l1, l2, e1, e2⟩ := seats_at st hs
  have hc : ∀ d, sp d = sp (st s) → hcells vb (upd st s d) = hcells vb st := fun d hd => by
    rcases (show s = 0 ∨ s = 1 ∨ s = 2 ∨ s = 3 ∨ s = 4 by omega) with e | e | e | e | e <;> subst e <;> simp [hcells, upd, hd]
  refine ⟨BoxT hb (hcells vb st) 59 :: (l1 ++ (l2 ++ r)), ?_, fun w' tb' f n cs d P seat hd hz' => ?_⟩
  · have h1 := Hall.vlt hz
    rw [e1, List.append_assoc] at h1
    refine h1.perm (List.Perm.cons _ ?_)
    exact (List.perm_middle (l₁ := BoxT hb (hcells vb st) 59 :: l1))
  · refine Hall.of_vlt ?_
    rw [e2, hc d hd, List.append_assoc]
    refine hz'.perm (List.Perm.cons _ ?_)
    have p1 := (List.perm_middle (l₁ := BoxT hb (hcells vb st) 59 :: l1) (a := OptT d) (l₂ := l2 ++ (P :: r))).symm
    refine List.Perm.trans (List.Perm.cons _ ?_) p1
    have p2 := (List.perm_middle (l₁ := BoxT hb (hcells vb st) 59 :: (l1 ++ l2)) (a := P) (l₂ := r)).symm
    have e3 : ∀ q : List Thing, BoxT hb (hcells vb st) 59 :: (l1 ++ (l2 ++ q)) = (BoxT hb (hcells vb st) 59 :: (l1 ++ l2)) ++ q := fun q => by simp
    show (P :: BoxT hb (hcells vb st) 59 :: (l1 ++ (l2 ++ r))).Perm (BoxT hb (hcells vb st) 59 :: (l1 ++ (l2 ++ (P :: r))))
    rw [e3, e3]
    exact p2
/-- A seat's cell is set, the deed that it had is let go. -/
theorem hcells_set (vb : Nat) (st : Nat → Sd) {s : Nat} (hs : s < 5) (d : Sd) : (hcells vb st).setIfInBounds (1 + s) (sp d) = hcells vb (upd st s d) := by
  rcases (show s = 0 ∨ s = 1 ∨ s = 2 ∨ s = 3 ∨ s = 4 by omega) with e | e | e | e | e <;> subst e <;> simp [hcells, upd]
theorem Hall.sit {s : Nat} (hs : s < 5) (d : Sd) (k : Zoo w0 w (BoxT hb (hcells vb st) 59 :: VltT vb tb gb h.f h.n h.cs [] :: (seats (upd st s d) ++ r))) :
    Hall w0 (w.setCell ⟨hb, 1 + s, none⟩ (sp d)) hb vb tb gb h (upd st s d) r := by
  obtain ⟨F, ⟨hbx, h2, h3⟩, k2⟩ := zoo_at0 k
  refine k2 _ _ ⟨F, ⟨?_, h2, h3⟩, ?_, fun x hx => .inl hx⟩
  · rw [heap_setCell_at _ _ hbx, hcells_set vb st hs d]
  · rw [h2]
    exact (Kp.refl [hb] w).setCell (.inl (by simp)) _
theorem opt_none (hz : Zoo w0 w r) : Zoo w0 w (OptT none :: r) := many_close (os := []) hz
theorem Hall.leave (hz : Hall w0 w hb vb tb gb h st r) {s : Nat} (hs : s < 5) : Hall w0 (w.setCell ⟨hb, 1 + s, none⟩ (.pointer none)) hb vb tb gb h (upd st s none) (OptT (st s) :: r) := by
  obtain ⟨l1, l2, e1, e2⟩ := seats_at st hs
  generalize hA : BoxT hb (hcells vb st) 59 :: VltT vb tb gb h.f h.n h.cs [] :: l1 = A
  have h1 : Zoo w0 w (A ++ OptT (st s) :: (l2 ++ r)) := by
    have := hz
    unfold Hall at this
    rw [e1, List.append_assoc] at this
    rw [← hA]
    exact this
  have h2 := (opt_none h1).perm ((List.Perm.cons _ List.perm_middle).trans (List.Perm.swap _ _ _))
  have h3 := h2.perm (List.Perm.cons _ (List.perm_middle (l₁ := A)).symm)
  have h4 : Zoo w0 w (OptT (st s) :: ((A ++ OptT none :: l2) ++ r)) := by rw [List.append_assoc]; exact h3
  have h5 := h4.perm (List.perm_middle (l₁ := A ++ OptT none :: l2)).symm
  have h6 : Zoo w0 w (BoxT hb (hcells vb st) 59 :: VltT vb tb gb h.f h.n h.cs [] :: (seats (upd st s none) ++ (OptT (st s) :: r))) := by
    rw [e2]
    rw [← hA] at h5
    exact h5
  exact Hall.sit hs none h6
/-- A new deed at an empty seat: it lies at the head of the others. -/
theorem Hall.join {d : Sd} (hz : Zoo w0 w (VltT vb tb gb h.f h.n h.cs [] :: OptT d :: BoxT hb (hcells vb st) 59 :: (seats st ++ r))) {s : Nat} (hs : s < 5) (hn : st s = none) : Hall w0 (w.setCell ⟨hb, 1 + s, none⟩ (sp d)) hb vb tb gb h (upd st s d) r := by
  obtain ⟨l1, l2, e1, e2⟩ := seats_at st hs
  refine Hall.sit (h := h) (st := st) hs d ?_
  rw [e1, hn, List.append_assoc] at hz
  have h1 : Zoo w0 w ((VltT vb tb gb h.f h.n h.cs [] :: OptT d :: BoxT hb (hcells vb st) 59 :: l1) ++ OptT none :: (l2 ++ r)) := hz
  have h2 := h1.drop_
  rw [e2, List.append_assoc]
  refine h2.perm ?_
  have p1 : (VltT vb tb gb h.f h.n h.cs [] :: OptT d :: BoxT hb (hcells vb st) 59 :: (l1 ++ (l2 ++ r))).Perm (BoxT hb (hcells vb st) 59 :: VltT vb tb gb h.f h.n h.cs [] :: OptT d :: (l1 ++ (l2 ++ r))) := List.perm_middle (l₁ := [VltT vb tb gb h.f h.n h.cs [], OptT d])
  exact p1.trans (List.Perm.cons _ (List.Perm.cons _ List.perm_middle.symm))
/-- All deeds are let go. -/
theorem Hall.leaveAll (hz : Hall w0 w hb vb tb gb h st r) (hb' : w'.heap[hb]? = some (.cells (hcells vb (fun _ => none)) 59 (0, 0))) (hk : Kp [hb] w w') : Hall w0 w' hb vb tb gb ⟨h.f, h.n, h.cs, fun _ => none⟩ (fun _ => none) r := by
  have h1 : Zoo w0 w ((BoxT hb (hcells vb st) 59 :: VltT vb tb gb h.f h.n h.cs [] :: seats st) ++ r) := hz
  have h2 : Zoo w0 w (BoxT hb (hcells vb st) 59 :: VltT vb tb gb h.f h.n h.cs [] :: r) := by
    have h5 : Zoo w0 w (seats st ++ (BoxT hb (hcells vb st) 59 :: VltT vb tb gb h.f h.n h.cs [] :: r)) := by
      refine h1.perm ?_
      have p : ((BoxT hb (hcells vb st) 59 :: VltT vb tb gb h.f h.n h.cs [] :: seats st) ++ r).Perm ((seats st ++ [BoxT hb (hcells vb st) 59, VltT vb tb gb h.f h.n h.cs []]) ++ r) := (List.perm_append_comm (l₁ := [BoxT hb (hcells vb st) 59, VltT vb tb gb h.f h.n h.cs []]) (l₂ := seats st)).append_right r
      rw [List.append_assoc] at p
      exact p
    exact (many_close h5).tail
  obtain ⟨F, ⟨hbx, e2, e3⟩, k2⟩ := zoo_at0 h2
  have h4 : Zoo w0 w' (BoxT hb (hcells vb (fun _ => none)) 59 :: VltT vb tb gb h.f h.n h.cs [] :: r) := k2 _ _ ⟨F, ⟨hb', e2, e3⟩, by rw [e2]; exact hk, fun x hx => .inl hx⟩
  have h6 := opt_none (opt_none (opt_none (opt_none (opt_none h4))))
  exact h6.perm ((List.perm_append_comm (l₁ := seats (fun _ => none)) (l₂ := [BoxT hb (hcells vb (fun _ => none)) 59, VltT vb tb gb h.f h.n h.cs []])).append_right r)
/-- A seat's deed. -/
theorem Hall.ded (hz : Hall w0 w hb vb tb gb h st r) {s D : Nat} {d : Dp} (hs : s < 5) (hd : st s = some (D, d)) : Ded w D d.md d.y d.rs d.ws := by
  obtain ⟨rest, h1, _⟩ := hz.out hs
  rw [hd] at h1
  obtain ⟨F, h2, _⟩ := zoo_at1 h1
  exact h2.1
/-- Variables beside a hall. -/
theorem Hall.new (hz : Hall w0 w hb vb tb gb h st r) (c : Array Value) (T : TypeId) : Hall w0 (w.alloc (.cells c T)) hb vb tb gb h st (BoxT w.heap.size c T :: r) := by
  have h1 := Zoo.box hz c T
  exact h1.perm (List.perm_middle (l₁ := BoxT hb (hcells vb st) 59 :: VltT vb tb gb h.f h.n h.cs [] :: seats st)).symm
theorem Hall.two (hz : Hall w0 w hb vb tb gb h st r) (c : Array Value) (T : TypeId) (c2 : Array Value) (T2 : TypeId) : Hall w0 ((w.alloc (.cells c T)).alloc (.cells c2 T2)) hb vb tb gb h st (BoxT (w.heap.size + 1) c2 T2 :: BoxT w.heap.size c T :: r) := by
  have h1 := (hz.new c T).new c2 T2
  rw [show (w.alloc (.cells c T)).heap.size = w.heap.size + 1 by simp] at h1
  exact h1
theorem Hall.perm {r' : List Thing} (hz : Hall w0 w hb vb tb gb h st r) (hp : r.Perm r') : Hall w0 w hb vb tb gb h st r' := Zoo.perm hz (List.Perm.cons _ (List.Perm.cons _ (List.Perm.append_left _ hp)))
theorem Hall.var {p : Nat} {c : Array Value} {T : TypeId} (hz : Hall w0 w hb vb tb gb h st r) (hm : BoxT p c T ∈ r) : w.heap[p]? = some (.cells c T (0, 0)) := zoo_varm hz (by simp [hm])
/-- A thing beside a hall, and what a call on it may do. -/
theorem Hall.at_ {l1 l2 : List Thing} {o : Thing} (hz : Hall w0 w hb vb tb gb h st (l1 ++ o :: l2)) : ∃ F, o.holds w0.heap.size w F ∧ ∀ (o' : Thing) (w' : World), Ch o' w0.heap.size w F w' → Hall w0 w' hb vb tb gb h st (l1 ++ o' :: l2) := by
  have hz' : Zoo w0 w ((BoxT hb (hcells vb st) 59 :: VltT vb tb gb h.f h.n h.cs [] :: (seats st ++ l1)) ++ o :: l2) := by
    have := hz
    unfold Hall at this
    rw [← List.append_assoc] at this
    exact this
  obtain ⟨F, h1, h2⟩ := hz'.at_
  refine ⟨F, h1, fun o' w' hc => ?_⟩
  have := h2 o' w' hc
  unfold Hall
  rw [← List.append_assoc]
  exact this
theorem Hall.drop {l1 l2 : List Thing} {o : Thing} (hz : Hall w0 w hb vb tb gb h st (l1 ++ o :: l2)) : Hall w0 w hb vb tb gb h st (l1 ++ l2) := by
  have h1 : Hall w0 w hb vb tb gb h st (o :: (l1 ++ l2)) := hz.perm List.perm_middle
  exact Zoo.drop_ (l1 := BoxT hb (hcells vb st) 59 :: VltT vb tb gb h.f h.n h.cs [] :: seats st) h1
theorem Hall.tail {o : Thing} (hz : Hall w0 w hb vb tb gb h st (o :: r)) : Hall w0 w hb vb tb gb h st r := Hall.drop (l1 := []) hz
theorem Hall.setAt {l1 l2 : List Thing} {p : Nat} {c : Array Value} {T : TypeId} (hz : Hall w0 w hb vb tb gb h st (l1 ++ BoxT p c T :: l2)) (i : Nat) (v : Value) : Hall w0 (w.setCell ⟨p, i, none⟩ v) hb vb tb gb h st (l1 ++ BoxT p (c.setIfInBounds i v) T :: l2) := by
  obtain ⟨F, ⟨hbx, h2, h3⟩, k2⟩ := hz.at_
  exact k2 _ _ ⟨F, ⟨heap_setCell_at _ _ hbx, h2, h3⟩, by rw [h2]; exact (Kp.refl [p] w).setCell (.inl (by simp)) _, fun x hx => .inl hx⟩
theorem Hall.set0 {p : Nat} {c : Array Value} {T : TypeId} (hz : Hall w0 w hb vb tb gb h st (BoxT p c T :: r)) (i : Nat) (v : Value) : Hall w0 (w.setCell ⟨p, i, none⟩ v) hb vb tb gb h st (BoxT p (c.setIfInBounds i v) T :: r) := Hall.setAt (l1 := []) hz i v
/-- Two variables beside a hall are two. -/
theorem Hall.ne2 {p p2 : Nat} {c c2 : Array Value} {T T2 : TypeId} (hz : Hall w0 w hb vb tb gb h st (BoxT p c T :: BoxT p2 c2 T2 :: r)) : p ≠ p2 := by
  obtain ⟨X, ⟨F0, Y0, _, ⟨F1, Y1, _, k, _, _⟩, _, _⟩, _⟩ := hz
  obtain ⟨F, Y, k1, ⟨F2, Y2, h2, ⟨F3, Y3, h3, k3, _, e3⟩, hd, e2⟩, _, _⟩ := zoof_app k
  intro e
  subst e
  exact hd p (by rw [h2.2.1]; simp) (by rw [e3, h3.2.1]; simp)
end
end
/- A hall's small functions, by their contracts: Seat, Deed, Busy, find, leaveAll, Least, New. -/
section
open Go.RowKit
attribute [local go_sem ↓] Go.wp_at_zero Go.wp_at_succ

set_option maxHeartbeats 400000 in
theorem hseat (k : Int) (w : World) : Calls Tryz.prog 129 #[.int .i64 k] w fun e w' => e = .returned (.bool (seatB k)) ∧ w' = w := by
  go_enter Tryz.func129, Tryz.ntmps129
  go_wp2
  all_goals
    go_ret
    exact ⟨ret_bool (by simp [seatB]; omega), rfl⟩

/-- A seat's deed; none where there is no such seat. -/
def dat (st : Nat → Sd) (s : Int) : Sd := if 0 ≤ s ∧ s < 5 then st s.toNat else none
theorem dat_in {st : Nat → Sd} {j : Nat} (hj : j < 5) : dat st (j : Int) = st j := by unfold dat; rw [if_pos (by omega), Int.toNat_natCast]
theorem dat_out {st : Nat → Sd} {s : Int} (hs : ¬ (0 ≤ s ∧ s < 5)) : dat st s = none := if_neg hs
theorem seat_in {s : Int} (hs : 0 ≤ s ∧ s < 5) : ∃ j : Nat, s = (j : Int) ∧ j < 5 := ⟨s.toNat, by omega, by omega⟩

section
variable {w0 w : World} {hb vb tb gb : Nat} {h : HSt} {st : Nat → Sd} {r : List Thing}
set_option maxHeartbeats 400000 in
theorem h_deed (s : Int) (hz : Hall w0 w hb vb tb gb h st r) : Calls Tryz.prog 164 #[.pointer (some ⟨hb, 0, none⟩), .int .i64 s] w fun e w' => e = .returned (sp (dat st s)) ∧ w' = w := by
  by_cases hs : 0 ≤ s ∧ s < 5
  · obtain ⟨j, rfl, hj⟩ := seat_in hs
    have hsb : seatB (j : Int) = true := decide_eq_true hs
    have i0 : (0 : Int) ≤ (j : Int) := by omega
    have i5 : (j : Int) < 5 := by omega
    have c1 := hz.cs_ hj
    rw [dat_in hj]
    clear hz
    generalize sp (st j) = o at *
    go_enter Tryz.func164, Tryz.ntmps164
    go_wp2_with fail
    refine (hseat (j : Int) _).mono ?_
    rintro e w' ⟨rfl, hw'⟩
    subst w'
    rw [hsb]
    go_wp2_with fail
    go_ret
    exact ⟨rfl, rfl⟩
  · have hsb : seatB s = false := decide_eq_false hs
    rw [dat_out hs]
    clear hz
    go_enter Tryz.func164, Tryz.ntmps164
    go_wp2_with fail
    refine (hseat s _).mono ?_
    rintro e w' ⟨rfl, hw'⟩
    subst w'
    rw [hsb]
    go_wp2_with fail
    go_ret
    exact ⟨rfl, rfl⟩
set_option maxHeartbeats 400000 in
theorem h_busy (s : Int) (hz : Hall w0 w hb vb tb gb h st r) : Calls Tryz.prog 130 #[.pointer (some ⟨hb, 0, none⟩), .int .i64 s] w fun e w' => e = .returned (.bool (dat st s).isSome) ∧ w' = w := by
  have HD := hide (h_deed s hz)
  clear hz
  cases ho : dat st s with
  | none =>
    rw [ho] at HD
    go_enter Tryz.func130, Tryz.ntmps130
    go_wp2_with fail
    refine (unhide HD).mono ?_
    rintro e w' ⟨rfl, hw'⟩
    subst w'
    rw [show sp none = .pointer none from rfl]
    go_wp2_with fail
    go_ret
    exact ⟨rfl, rfl⟩
  | some x =>
    rw [ho] at HD
    go_enter Tryz.func130, Tryz.ntmps130
    go_wp2_with fail
    refine (unhide HD).mono ?_
    rintro e w' ⟨rfl, hw'⟩
    subst w'
    rw [show sp (some x) = .pointer (some ⟨x.1, 0, none⟩) from rfl]
    go_wp2_with fail
    go_ret
    exact ⟨rfl, rfl⟩
/-- find: the seat's deed, or why there is none. -/
def fcode (st : Nat → Sd) (s : Int) : Int := if 0 ≤ s ∧ s < 5 then (if (st s.toNat).isSome = true then 0 else 7) else 1
set_option maxHeartbeats 400000 in
theorem h_find (s : Int) (hz : Hall w0 w hb vb tb gb h st r) : Calls Tryz.prog 132 #[.pointer (some ⟨hb, 0, none⟩), .int .i64 s] w fun e w' => e = .returned (.tuple #[sp (dat st s), .int .i64 (fcode st s)]) ∧ w' = w := by
  have HB := hide (h_busy s hz)
  by_cases hs : 0 ≤ s ∧ s < 5
  · obtain ⟨j, rfl, hj⟩ := seat_in hs
    have hsb : seatB (j : Int) = true := decide_eq_true hs
    have i0 : (0 : Int) ≤ (j : Int) := by omega
    have i5 : (j : Int) < 5 := by omega
    have c1 := hz.cs_ hj
    rw [dat_in hj] at HB ⊢
    have hf : fcode st (j : Int) = if (st j).isSome = true then 0 else 7 := by unfold fcode; rw [if_pos hs, Int.toNat_natCast]
    rw [hf]
    clear hz hf
    generalize st j = o at *
    cases o with
    | none =>
      go_enter Tryz.func132, Tryz.ntmps132
      go_wp2_with fail
      refine (hseat (j : Int) _).mono ?_
      rintro e w' ⟨rfl, hw'⟩
      subst w'
      rw [hsb]
      go_wp2_with fail
      refine (unhide HB).mono ?_
      rintro e w' ⟨rfl, hw'⟩
      subst w'
      rw [show Option.isSome (none : Sd) = false from rfl]
      go_wp2_with fail
      go_ret2
      exact ⟨rfl, rfl⟩
    | some x =>
      go_enter Tryz.func132, Tryz.ntmps132
      go_wp2_with fail
      refine (hseat (j : Int) _).mono ?_
      rintro e w' ⟨rfl, hw'⟩
      subst w'
      rw [hsb]
      go_wp2_with fail
      refine (unhide HB).mono ?_
      rintro e w' ⟨rfl, hw'⟩
      subst w'
      rw [show Option.isSome (some x) = true from rfl]
      go_wp2_with fail
      go_ret2
      exact ⟨rfl, rfl⟩
  · have hsb : seatB s = false := decide_eq_false hs
    have hf : fcode st s = 1 := by unfold fcode; rw [if_neg hs]
    rw [dat_out hs, hf]
    clear hz HB hf
    go_enter Tryz.func132, Tryz.ntmps132
    go_wp2_with fail
    refine (hseat s _).mono ?_
    rintro e w' ⟨rfl, hw'⟩
    subst w'
    rw [hsb]
    go_wp2_with fail
    go_ret2
    exact ⟨rfl, rfl⟩
set_option maxHeartbeats 400000 in
theorem h_leaveAll (hz : Hall w0 w hb vb tb gb h st r) : Calls Tryz.prog 89 #[.pointer (some ⟨hb, 0, none⟩)] w fun e w' => e = .returned (.tuple #[]) ∧ Hid (Hall w0 w' hb vb tb gb ⟨h.f, h.n, h.cs, fun _ => none⟩ (fun _ => none) r) := by
  have hbx := hz.box
  have c1 := hz.cs_ (s := 0) (by omega)
  have c2 := hz.cs_ (s := 1) (by omega)
  have c3 := hz.cs_ (s := 2) (by omega)
  have c4 := hz.cs_ (s := 3) (by omega)
  have c5 := hz.cs_ (s := 4) (by omega)
  have f1 := hz.fz 1
  have f2 := hz.fz 2
  have f3 := hz.fz 3
  have f4 := hz.fz 4
  have f5 := hz.fz 5
  have HZ := hide hz
  clear hz
  go_enter Tryz.func89, Tryz.ntmps89
  go_wp2_with fail
  go_end0
  refine ⟨rfl, (unhide HZ).leaveAll ?_ ?_⟩
  · rw [heap_setCell_at _ _ (heap_setCell_at _ _ (heap_setCell_at _ _ (heap_setCell_at _ _ (heap_setCell_at _ _ hbx))))]
    rfl
  · exact (((((Kp.refl [hb] w).setCell (.inl (by simp)) _).setCell (.inl (by simp)) _).setCell (.inl (by simp)) _).setCell (.inl (by simp)) _).setCell (.inl (by simp)) _
theorem run_index5 (w : World) (cs : Array Value) (k : Nat) (v : Value) (hk : k < 5) (hv : cs[k]? = some v) :
    (Instr.index 57 (.agg cs) (.int .i64 (k : Int))).run Tryz.prog w = .ok v w := by
  have hn : (k : Int) < 5 := by omega
  simp [Instr.index, run_underlying Tryz.underlying57, asIntOf, hk, hv, go_sem]
theorem parr5 (st : Nat → Sd) : ∃ A : Array Value, #[sp (st 0), sp (st 1), sp (st 2), sp (st 3), sp (st 4)] = A ∧ ∀ k, k < 5 → A[k]? = some (sp (st k)) := by
  refine ⟨_, rfl, fun k hk => ?_⟩
  rcases (show k = 0 ∨ k = 1 ∨ k = 2 ∨ k = 3 ∨ k = 4 by omega) with e | e | e | e | e <;> subst e <;> rfl
set_option maxHeartbeats 1000000 in
theorem h_least (hs : Sts st h.seat) (hz : Hall w0 w hb vb tb gb h st r) : Calls Tryz.prog 28 #[.pointer (some ⟨hb, 0, none⟩)] w fun e w' => e = .returned (.int .i64 (least h.n h.seat 5)) ∧ w' = w := by
  have c0 := hz.c0
  have v0 := hz.v0
  have c1 := hz.cs_ (s := 0) (by omega)
  have c2 := hz.cs_ (s := 1) (by omega)
  have c3 := hz.cs_ (s := 2) (by omega)
  have c4 := hz.cs_ (s := 3) (by omega)
  have c5 := hz.cs_ (s := 4) (by omega)
  have HZ := hide hz
  clear hz
  go_enter Tryz.func28, Tryz.ntmps28
  go_wp2_with fail
  refine (l_last (unhide HZ).vlt).mono ?_
  rintro e w' ⟨rfl, hw'⟩
  subst w'
  go_wp2_with fail
  obtain ⟨A, hA, hAk⟩ := parr5 st
  rw [hA]
  clear hA c0 v0 c1 c2 c3 c4 c5
  go_loop [3, 18] (fun x i => ∃ k : Nat, k ≤ 5 ∧ x = .int .i64 (least h.n h.seat k) ∧ i = .int .i64 k) (fun _ i => 5 - (intOf i).toNat)
  case atStart => exact ⟨0, by omega, rfl, rfl⟩
  case round =>
    obtain ⟨k, hk, rfl, rfl⟩ := hrel
    by_cases hlt : k < 5
    · have i0 : (0 : Int) ≤ (k : Int) := by omega
      have i1 : (k : Int) < 5 := by omega
      have hk1 := hs k
      have HD := hide (fun D d (hd : st k = some (D, d)) => (unhide HZ).ded hlt hd)
      have hx0 := hAk k hlt
      have hls : least h.n h.seat (k + 1) = match h.seat k with | some d => if d.y < least h.n h.seat k then d.y else least h.n h.seat k | none => least h.n h.seat k := rfl
      have HLS := hide hls
      clear hls
      cases ho : st k with
      | none =>
        rw [ho] at hx0 hk1
        have hx := fun w => run_index5 w A k _ hlt hx0
        rw [show sp none = .pointer none from rfl] at hx
        have e1 : least h.n h.seat (k + 1) = least h.n h.seat k := by rw [unhide HLS, ← hk1]; rfl
        have E1 := hide e1
        clear e1 HLS hk1
        go_wp2_with fail
        exact ⟨⟨k + 1, by omega, by rw [unhide E1], by go_num⟩, by simp [intOf]; omega⟩
      | some xx =>
        obtain ⟨D, d⟩ := xx
        rw [ho] at hx0 hk1
        have hx := fun w => run_index5 w A k _ hlt hx0
        rw [show sp (some (D, d)) = .pointer (some ⟨D, 0, none⟩) from rfl] at hx
        have e1 : least h.n h.seat (k + 1) = if d.y < least h.n h.seat k then d.y else least h.n h.seat k := by rw [unhide HLS, ← hk1]; rfl
        have E1 := hide e1
        have HD1 := hide (unhide HD D d ho)
        clear e1 HLS hk1 HD
        generalize least h.n h.seat k = z at *
        go_wp2_with fail
        refine (dat71 _ (unhide HD1)).mono ?_
        rintro e w' ⟨rfl, hw'⟩
        subst w'
        by_cases hlt2 : d.y < z
        · rw [if_pos hlt2] at E1
          go_wp2_with fail
          exact ⟨⟨k + 1, by omega, by rw [unhide E1], by go_num⟩, by simp [intOf]; omega⟩
        · rw [if_neg hlt2] at E1
          go_wp2_with fail
          exact ⟨⟨k + 1, by omega, by rw [unhide E1], by go_num⟩, by simp [intOf]; omega⟩
    · have e : k = 5 := by omega
      subst e
      go_wp2
      go_ret
      exact ⟨rfl, rfl⟩
end
set_option maxHeartbeats 1000000 in
theorem h_new (w : World) : Calls Tryz.prog 12 #[] w fun e w' => ∃ hb, e = .returned (.pointer (some ⟨hb, 0, none⟩)) ∧ ∃ F, (HalT hb ⟨fun _ => [dv], 0, [], fun _ => none⟩).holds w.heap.size w' F ∧ Kp [] w w' := by
  go_enter Tryz.func12, Tryz.ntmps12
  go_wp2_with fail
  refine (vnew w).mono ?_
  rintro e w1 ⟨vb, tb, gb, F, rfl, h1, k1⟩
  go_wp2_with fail
  go_ret
  have hz0 : Zoo w w1 [VltT vb tb gb (fun _ => [dv]) 0 [] []] := (zoo_nil (Kp.refl [] w)).cons h1 k1
  have hz1 := opt_none (opt_none (opt_none (opt_none (opt_none (hz0.box (hcells vb (fun _ => none)) 59)))))
  have hz2 : Hall w _ w1.heap.size vb tb gb ⟨fun _ => [dv], 0, [], fun _ => none⟩ (fun _ => none) [] := hz1.perm ((List.perm_append_comm (l₁ := seats (fun _ => none)) (l₂ := [BoxT w1.heap.size (hcells vb (fun _ => none)) 59, VltT vb tb gb (fun _ => [dv]) 0 [] []])).append_right [])
  have hz3 := hal_close (fun _ => rfl) hinv_new hz2
  obtain ⟨F', h5, _⟩ := zoo_at0 hz3
  exact ⟨_, rfl, F', h5, hz3.kp⟩
end
/- A row of pairs as a thing; the calls of a seat's deed, in a hall. -/
section
open Go.RowKit

/-- A row of pairs of one's own. -/
def PsT (a : Option Addr) (cap : Nat) (L : List Ver) : Thing where
  holds B w F := w.ownsRow B 106 3 (.slice a L.length cap) L.length (vcells L) ∧ F = ob a
  kp := fun ⟨h1, h2⟩ hk hS => ⟨own_kp h1 hk (fun g hg => hS g (by
    rw [h2]
    cases a with
    | none => simp [Value.ownBlock] at hg
    | some ad => simp [Value.ownBlock] at hg; simp [ob, hg])), h2⟩
  lo := fun ⟨h1, h2⟩ x hx => by
    rw [h2] at hx
    rcases h1.2 with ⟨hn, _⟩ | ⟨g, cap', cur, hv, h3, h4, h5⟩
    · simp only [Value.slice.injEq] at hn
      rw [hn.1] at hx
      simp [ob] at hx
    · simp only [Value.slice.injEq] at hv
      rw [hv.1] at hx
      simp [ob] at hx
      subst hx
      exact ⟨h3, lt_of_block h4⟩
  base := fun ⟨h1, h2⟩ hC => ⟨own_base h1 hC, h2⟩
theorem ps_nil {w0 w : World} {r : List Thing} (hz : Zoo w0 w r) : Zoo w0 w (PsT none 0 [] :: r) := by
  obtain ⟨X, h1, hk⟩ := hz
  exact ⟨X, ⟨[], X, ⟨World.ownsRow_nil _ _ _ _, rfl⟩, h1, fun _ hx => by simp at hx, rfl⟩, hk⟩

section
variable {w0 w : World} {vb tb gb : Nat} {f : Nat → List Ver} {n : Nat} {cs : List (List Ver)} {r : List Thing} {D : Nat} {md y : Int} {rs : List Int} {ws : List Ver}
theorem l_list (fr to_ : Int) (hz : Zoo w0 w (VltT vb tb gb f n cs [] :: BoxT D (dcells md y (ncell rs ws)) 162 :: r)) :
    Calls Tryz.prog 135 #[.pointer (some ⟨D, 0, none⟩), .pointer (some ⟨tb, 0, none⟩), .int .i64 fr, .int .i64 to_] w fun e w' => ∃ a cap, e = .returned (.tuple #[.slice a (dls f n y ws rs fr to_).1.length cap, .int .i64 (dls f n y ws rs fr to_).2.1]) ∧ Hid (Zoo w0 w' (VltT vb tb gb f n cs [] :: BoxT D (dcells md y (ncell (dls f n y ws rs fr to_).2.2 ws)) 162 :: PsT a cap (dls f n y ws rs fr to_).1 :: r)) := by
  have hz' := hz
  obtain ⟨X, ⟨Fv, Y, ⟨Ft, Fg, k1⟩, ⟨F, Z, ⟨h1, h2, h3⟩, _, _, e2⟩, hd, _⟩, _⟩ := hz'
  have hF : D ∉ Ft := fun hm => hd D (k1.tF D hm) (by rw [e2, h2]; simp)
  obtain ⟨F, ⟨h1, h2, h3⟩, k2⟩ := zoo_at1 hz
  refine (dlist59 fr to_ w k1.t h1 hF).mono ?_
  rintro e w' ⟨a, cap, rfl, ho, hd2, hk⟩
  refine ⟨a, cap, rfl, ?_⟩
  have hB : w0.heap.size ≤ w.heap.size := hz.kp.size
  have hlo : ∀ x ∈ ob a, w.heap.size ≤ x := fun x hx => by
    cases a with
    | none => simp [ob] at hx
    | some ad =>
      simp only [ob, List.mem_singleton] at hx
      subst hx
      exact own_ge ho rfl
  have h5 := k2 (ManyT [BoxT D (dcells md y (ncell (dls f n y ws rs fr to_).2.2 ws)) 162, PsT a cap (dls f n y ws rs fr to_).1]) w' ⟨F ++ (ob a ++ []), ⟨F, ob a ++ [], ⟨hd2, h2, h3⟩, ⟨ob a, [], ⟨own_base ho hB, rfl⟩, rfl, fun _ _ hy => by simp at hy, rfl⟩, fun x hx hy => ?_, rfl⟩, by rw [h2]; exact hk, fun x hx => ?_⟩
  · have h6 := h5.perm (List.Perm.swap _ _ _)
    have h7 := many_open h6
    exact h7.perm (List.perm_middle (l₁ := [BoxT D (dcells md y (ncell (dls f n y ws rs fr to_).2.2 ws)) 162, PsT a cap (dls f n y ws rs fr to_).1]))
  · rw [List.append_nil] at hy
    have := hlo x hy
    rw [h2] at hx
    rw [List.mem_singleton.1 hx] at this
    have := lt_of_block h1
    omega
  · rcases List.mem_append.1 hx with q | q
    · exact .inl q
    · rw [List.append_nil] at q
      exact .inr (hlo x q)
end

section
variable {w0 w : World} {hb vb tb gb : Nat} {h : HSt} {st : Nat → Sd} {r : List Thing} {s D : Nat} {d : Dp}
theorem h_get (k : Int) (hs : s < 5) (hd : st s = some (D, d)) (hz : Hall w0 w hb vb tb gb h st r) :
    Calls Tryz.prog 133 #[.pointer (some ⟨D, 0, none⟩), .pointer (some ⟨tb, 0, none⟩), .int .i64 k] w fun e w' => e = .returned (.tuple #[.agg #[.bool (dg h.f h.n d.y d.ws k).t, .string (dg h.f h.n d.y d.ws k).s], .int .i64 (dg h.f h.n d.y d.ws k).a]) ∧ Hid (Hall w0 w' hb vb tb gb h (upd st s (some (D, { d with rs := dr h.f h.n d.y d.rs d.ws k }))) r) := by
  obtain ⟨rest, h1, h2⟩ := hz.out hs
  rw [hd] at h1 h2
  refine (l_get k h1).mono ?_
  rintro e w' ⟨rfl, HZ⟩
  exact ⟨rfl, h2 w' tb h.f h.n h.cs (some (D, { d with rs := dr h.f h.n d.y d.rs d.ws k })) h.seat rfl (unhide HZ)⟩
theorem h_put (k : Int) (t : Bool) (b : ByteArray) (hsz : b.size ≤ maxLen) (hs : s < 5) (hd : st s = some (D, d)) (hz : Hall w0 w hb vb tb gb h st r) :
    Calls Tryz.prog 134 #[.pointer (some ⟨D, 0, none⟩), .int .i64 k, .agg #[.bool t, .string b]] w fun e w' => e = .returned (.int .i64 (dpc d.md k t b)) ∧ Hid (Hall w0 w' hb vb tb gb h (upd st s (some (D, { d with ws := dpw d.md d.ws k t b }))) r) := by
  obtain ⟨rest, h1, h2⟩ := hz.out hs
  rw [hd] at h1 h2
  refine (b_put1 k t b hsz h1).mono ?_
  rintro e w' ⟨rfl, HZ⟩
  exact ⟨rfl, h2 w' tb h.f h.n h.cs (some (D, { d with ws := dpw d.md d.ws k t b })) h.seat rfl (unhide HZ)⟩
theorem h_list (fr to_ : Int) (hs : s < 5) (hd : st s = some (D, d)) (hz : Hall w0 w hb vb tb gb h st r) :
    Calls Tryz.prog 135 #[.pointer (some ⟨D, 0, none⟩), .pointer (some ⟨tb, 0, none⟩), .int .i64 fr, .int .i64 to_] w fun e w' => ∃ a cap, e = .returned (.tuple #[.slice a (dls h.f h.n d.y d.ws d.rs fr to_).1.length cap, .int .i64 (dls h.f h.n d.y d.ws d.rs fr to_).2.1]) ∧ Hid (Hall w0 w' hb vb tb gb h (upd st s (some (D, { d with rs := (dls h.f h.n d.y d.ws d.rs fr to_).2.2 }))) (PsT a cap (dls h.f h.n d.y d.ws d.rs fr to_).1 :: r)) := by
  obtain ⟨rest, h1, h2⟩ := hz.out2 hs
  rw [hd] at h1 h2
  refine (l_list fr to_ h1).mono ?_
  rintro e w' ⟨a, cap, rfl, HZ⟩
  exact ⟨a, cap, rfl, h2 w' tb h.f h.n h.cs (some (D, { d with rs := (dls h.f h.n d.y d.ws d.rs fr to_).2.2 })) (PsT a cap (dls h.f h.n d.y d.ws d.rs fr to_).1) h.seat rfl (unhide HZ)⟩
theorem Hall.dedr (hz : Hall w0 w hb vb tb gb h st r) (hm : OptT (some (D, d)) ∈ r) : Ded w D d.md d.y d.rs d.ws := zoo_varm (p := D) hz (List.Mem.tail _ (List.Mem.tail _ (List.mem_append_right _ hm)))
theorem h_commit (hi : HInv h) (hw : WOk d.ws) (hm : OptT (some (D, d)) ∈ r) (hz : Hall w0 w hb vb tb gb h st r) :
    Calls Tryz.prog 136 #[.pointer (some ⟨vb, 0, none⟩), .pointer (some ⟨D, 0, none⟩)] w fun e w' => e = .returned (.tuple #[.int .i64 (vnum h.f h.n h.cs d.md d.y d.rs d.ws), .int .i64 (vcode h.f h.cs d.md d.y d.rs d.ws)]) ∧ Hid (Hall w0 w' hb vb tb gb ⟨vf h.f h.n h.cs d.md d.y d.rs d.ws, vn h.f h.n h.cs d.md d.y d.rs d.ws, vcs h.f h.cs d.md d.y d.rs d.ws, h.seat⟩ st r) := by
  refine (b_commit hi.vi (hz.dedr hm) hw hz.vlt).mono ?_
  rintro e w' ⟨rfl, HZ⟩
  exact ⟨rfl, Hall.of_vlt (unhide HZ)⟩
theorem h_tear (keep : Int) (hi : HInv h) (hw : WOk d.ws) (hm : OptT (some (D, d)) ∈ r) (hz : Hall w0 w hb vb tb gb h st r) :
    Calls Tryz.prog 137 #[.pointer (some ⟨vb, 0, none⟩), .pointer (some ⟨D, 0, none⟩), .int .i64 keep] w fun e w' => e = .returned (.tuple #[.int .i64 (tnum h.f h.cs d.md d.y d.rs d.ws keep), .int .i64 (vcode h.f h.cs d.md d.y d.rs d.ws)]) ∧ ∃ tb', Hid (Hall w0 w' hb vb tb' gb ⟨wal0 (tcs h.f h.cs d.md d.y d.rs d.ws keep), (tcs h.f h.cs d.md d.y d.rs d.ws keep).length, tcs h.f h.cs d.md d.y d.rs d.ws keep, h.seat⟩ st r) := by
  refine (b_tear keep hi.vi (hz.dedr hm) hw hz.vlt).mono ?_
  rintro e w' ⟨rfl, tb', HZ⟩
  exact ⟨rfl, tb', Hall.of_vlt (unhide HZ)⟩
theorem h_crash (hz : Hall w0 w hb vb tb gb h st r) :
    Calls Tryz.prog 88 #[.pointer (some ⟨vb, 0, none⟩)] w fun e w' => e = .returned (.tuple #[]) ∧ ∃ tb', Hid (Hall w0 w' hb vb tb' gb ⟨wal0 h.cs, h.cs.length, h.cs, h.seat⟩ st r) := by
  refine (b_crash hz.vlt).mono ?_
  rintro e w' ⟨rfl, tb', _, HZ⟩
  exact ⟨rfl, tb', Hall.of_vlt (unhide HZ)⟩
theorem h_clear (y : Int) (hz : Hall w0 w hb vb tb gb h st r) :
    Calls Tryz.prog 87 #[.pointer (some ⟨tb, 0, none⟩), .int .i64 y] w fun e w' => e = .returned (.int .i64 (cln h.f y 8 : Nat)) ∧ Hid (Hall w0 w' hb vb tb gb ⟨clm h.f y 8, h.n, h.cs, h.seat⟩ st r) := by
  obtain ⟨F, ⟨Ft, Fg, k⟩, k2⟩ := zoo_at0 hz.vlt
  refine (tclear46 y w k.t).mono ?_
  rintro e w' ⟨rfl, F', h1, h2, h3⟩
  exact ⟨rfl, Hall.of_vlt (k2 _ _ (k.table h1 h2 h3))⟩
theorem h_last (hz : Hall w0 w hb vb tb gb h st r) : Calls Tryz.prog 26 #[.pointer (some ⟨tb, 0, none⟩)] w fun e w' => e = .returned (.int .i64 h.n) ∧ w' = w := l_last hz.vlt
theorem h_first (hz : Hall w0 w hb vb tb gb h st r) : Calls Tryz.prog 27 #[.pointer (some ⟨tb, 0, none⟩)] w fun e w' => e = .returned (.int .i64 (fmx h.f 8)) ∧ w' = w := l_first hz.vlt
end
end
/- Plain words for halls: first come. -/
section
open Go.RowKit

theorem snc_sfx {f g : Nat → List Ver} (h : Sfx f g) {k : Nat} (hk : k < 8) : snc f k = snc g k := by
  obtain ⟨d, h1, h2⟩ := h k hk
  unfold snc
  rw [Int.toNat_natCast, h2, va_last_drop h1]
end
/- Plain words for halls: to forget changes nothing that is seen. -/
section
open Go.RowKit

section
variable {f g : Nat → List Ver} {n : Nat} {y : Int} {ws : List Ver}
theorem sfx_fmx (h : Sfx f g) (hg : Inv g n) : fmx g 8 ≤ fmx f 8 := by
  have hf0 : (0 : Int) ≤ fmx f 8 := by
    have : ∀ m, (0 : Int) ≤ fmx f m := by
      intro m
      induction m with
      | zero => exact Int.le_refl _
      | succ m ih => simp only [fmx]; split <;> omega
    exact this 8
  refine fmx_bound hf0 8 (fun k hk => ?_)
  obtain ⟨d, h1, h2⟩ := h k hk
  have h3 := fmx_ge f 8 k hk
  rw [h2, va_drop, Nat.add_zero] at h3
  have h4 := (hg.rise k hk).le (Nat.zero_le d) h1
  omega
theorem dg_sfx (h : Sfx f g) (hg : Inv g n) (hy : fmx f 8 ≤ y) (k : Int) : dg f n y ws k = dg g n y ws k := by
  unfold dg
  rw [h.read hg k y hy]
theorem dr_sfx (h : Sfx f g) (hg : Inv g n) (hy : fmx f 8 ≤ y) (rs : List Int) (k : Int) : dr f n y rs ws k = dr g n y rs ws k := by
  unfold dr
  rw [h.read hg k y hy]
theorem dgo_sfx (h : Sfx f g) (hg : Inv g n) (hy : fmx f 8 ≤ y) : ∀ (m k : Nat) (acc : List Ver) (rs : List Int), dgo f n y ws k m acc rs = dgo g n y ws k m acc rs := by
  intro m
  induction m with
  | zero => intro k acc rs; rfl
  | succ m ih =>
    intro k acc rs
    simp only [dgo]
    rw [dg_sfx h hg hy, dr_sfx h hg hy, ih, ih]
theorem dls_sfx (h : Sfx f g) (hg : Inv g n) (hy : fmx f 8 ≤ y) (rs : List Int) (a b : Int) : dls f n y ws rs a b = dls g n y ws rs a b := by
  unfold dls
  rw [dgo_sfx h hg hy]
theorem cls_sfx (h : Sfx f g) : ∀ m, m ≤ 8 → cls f y ws m = cls g y ws m := by
  intro m
  induction m with
  | zero => intro _; rfl
  | succ m ih => intro hm; simp only [cls]; rw [snc_sfx h (by omega), ih (by omega)]
theorem stl_sfx (h : Sfx f g) (rs : List Int) : ∀ m, m ≤ 8 → stl f y rs m = stl g y rs m := by
  intro m
  induction m with
  | zero => intro _; rfl
  | succ m ih => intro hm; simp only [stl]; rw [snc_sfx h (by omega), ih (by omega)]
theorem dm_sfx (h : Sfx f g) (md : Int) (rs : List Int) : dm f md y rs ws = dm g md y rs ws := by
  unfold dm
  rw [cls_sfx h 8 (Nat.le_refl _), stl_sfx h rs 8 (Nat.le_refl _)]
theorem v_sfx (h : Sfx f g) (cs : List (List Ver)) (md : Int) (rs : List Int) : vcode f cs md y rs ws = vcode g cs md y rs ws ∧ vdone f cs md y rs ws = vdone g cs md y rs ws := by
  unfold vcode vdone
  rw [dm_sfx h]
  exact ⟨rfl, rfl⟩
theorem vs_sfx (h : Sfx f g) (cs : List (List Ver)) (md : Int) (rs : List Int) : vnum f n cs md y rs ws = vnum g n cs md y rs ws ∧ vn f n cs md y rs ws = vn g n cs md y rs ws ∧ vcs f cs md y rs ws = vcs g cs md y rs ws ∧ Sfx (vf f n cs md y rs ws) (vf g n cs md y rs ws) := by
  unfold vnum vn vcs vf
  rw [(v_sfx h cs md rs).2]
  refine ⟨rfl, rfl, rfl, ?_⟩
  split
  · exact h.write n _
  · exact h
theorem t_sfx (h : Sfx f g) (cs : List (List Ver)) (md : Int) (rs : List Int) (keep : Int) : tcs f cs md y rs ws keep = tcs g cs md y rs ws keep ∧ tnum f cs md y rs ws keep = tnum g cs md y rs ws keep := by
  unfold tnum tcs
  rw [dm_sfx h]
  exact ⟨rfl, rfl⟩
end

/-- Two halls, of which one forgot more. -/
structure HRel (h g : HSt) : Prop where
  hi : HInv h
  gi : HInv g
  sfx : Sfx h.f g.f
  n : h.n = g.n
  cs : h.cs = g.cs
  seat : h.seat = g.seat
theorem HRel.clear {h g : HSt} (r : HRel h g) {x : HStep} (hx : x.d = 8) : HRel (hdo h x) g := by
  have hi := r.hi.step x
  have e : hdo h x = { h with f := clm h.f (least h.n h.seat 5) 8 } := by
    have n0 : ¬ (x.d < 1 ∨ 10 < x.d) := by omega
    unfold hdo
    rw [if_neg n0, if_pos hx]
  rw [e] at hi ⊢
  exact ⟨hi, r.gi, r.sfx.clear _ r.hi.inv, r.n, r.cs, r.seat⟩
theorem HKind.eq {h : HSt} {x : HStep} {h' : HSt} {e : Ev} (k : HKind h x h' e) : hdo h x = h' ∧ hev h x = e := by
  unfold hdo hev
  cases k with
  | kind c => rw [if_pos c, if_pos c]; exact ⟨rfl, rfl⟩
  | clear c =>
    have n0 : ¬ (x.d < 1 ∨ 10 < x.d) := by omega
    rw [if_neg n0, if_neg n0, if_pos c, if_pos c]; exact ⟨rfl, rfl⟩
  | crash c =>
    have n0 : ¬ (x.d < 1 ∨ 10 < x.d) := by omega
    have n8 : ¬ x.d = 8 := by omega
    rw [if_neg n0, if_neg n0, if_neg n8, if_neg n8, if_pos c, if_pos c]; exact ⟨rfl, rfl⟩
  | range c1 c2 =>
    have n0 : ¬ (x.d < 1 ∨ 10 < x.d) := by omega
    have n8 : ¬ x.d = 8 := by omega
    have n9 : ¬ x.d = 9 := by omega
    rw [if_neg n0, if_neg n0, if_neg n8, if_neg n8, if_neg n9, if_neg n9, if_pos c2, if_pos c2]; exact ⟨rfl, rfl⟩
  | began c1 c2 c3 c4 =>
    have n0 : ¬ (x.d < 1 ∨ 10 < x.d) := by omega
    have n8 : ¬ x.d = 8 := by omega
    have n9 : ¬ x.d = 9 := by omega
    have hns : ¬ ¬ (0 ≤ x.s ∧ x.s < 5) := fun q => q c2
    rw [if_neg n0, if_neg n0, if_neg n8, if_neg n8, if_neg n9, if_neg n9, if_neg hns, if_neg hns, c3]
    dsimp only
    rw [if_pos ⟨c1, c4⟩, if_pos c1, c4]; exact ⟨rfl, rfl⟩
  | beganNot c1 c2 c3 c4 =>
    have n0 : ¬ (x.d < 1 ∨ 10 < x.d) := by omega
    have n8 : ¬ x.d = 8 := by omega
    have n9 : ¬ x.d = 9 := by omega
    have hns : ¬ ¬ (0 ≤ x.s ∧ x.s < 5) := fun q => q c2
    rw [if_neg n0, if_neg n0, if_neg n8, if_neg n8, if_neg n9, if_neg n9, if_neg hns, if_neg hns, c3]
    dsimp only
    have hq : ¬ (x.d = 1 ∧ bcode h.f h.n x.md x.at_ = 0) := fun q => c4 q.2
    rw [if_neg hq, if_pos c1]; exact ⟨rfl, rfl⟩
  | none_ c1 c2 c3 =>
    have n0 : ¬ (x.d < 1 ∨ 10 < x.d) := by omega
    have n8 : ¬ x.d = 8 := by omega
    have n9 : ¬ x.d = 9 := by omega
    have hns : ¬ ¬ (0 ≤ x.s ∧ x.s < 5) := fun q => q c2
    have hn1 : ¬ x.d = 1 := by omega
    rw [if_neg n0, if_neg n0, if_neg n8, if_neg n8, if_neg n9, if_neg n9, if_neg hns, if_neg hns, c3]
    dsimp only
    have hq : ¬ (x.d = 1 ∧ bcode h.f h.n x.md x.at_ = 0) := fun q => hn1 q.1
    rw [if_neg hq, if_neg hn1]; exact ⟨rfl, rfl⟩
  | there d c1 c2 c3 =>
    have n0 : ¬ (x.d < 1 ∨ 10 < x.d) := by omega
    have n8 : ¬ x.d = 8 := by omega
    have n9 : ¬ x.d = 9 := by omega
    have hns : ¬ ¬ (0 ≤ x.s ∧ x.s < 5) := fun q => q c2
    rw [if_neg n0, if_neg n0, if_neg n8, if_neg n8, if_neg n9, if_neg n9, if_neg hns, if_neg hns, c3]
    dsimp only
    rw [if_pos c1, if_pos c1]; exact ⟨rfl, rfl⟩
  | get d c1 c2 c3 =>
    have n0 : ¬ (x.d < 1 ∨ 10 < x.d) := by omega
    have n8 : ¬ x.d = 8 := by omega
    have n9 : ¬ x.d = 9 := by omega
    have hns : ¬ ¬ (0 ≤ x.s ∧ x.s < 5) := fun q => q c2
    have m1 : ¬ x.d = 1 := by omega
    rw [if_neg n0, if_neg n0, if_neg n8, if_neg n8, if_neg n9, if_neg n9, if_neg hns, if_neg hns, c3]
    dsimp only
    rw [if_neg m1, if_neg m1, if_pos c1, if_pos c1]; exact ⟨rfl, rfl⟩
  | put d c1 c2 c3 =>
    have n0 : ¬ (x.d < 1 ∨ 10 < x.d) := by omega
    have n8 : ¬ x.d = 8 := by omega
    have n9 : ¬ x.d = 9 := by omega
    have hns : ¬ ¬ (0 ≤ x.s ∧ x.s < 5) := fun q => q c2
    have m1 : ¬ x.d = 1 := by omega
    have m2 : ¬ x.d = 2 := by omega
    rw [if_neg n0, if_neg n0, if_neg n8, if_neg n8, if_neg n9, if_neg n9, if_neg hns, if_neg hns, c3]
    dsimp only
    rw [if_neg m1, if_neg m1, if_neg m2, if_neg m2, if_pos c1, if_pos c1]; exact ⟨rfl, rfl⟩
  | drop d c1 c2 c3 =>
    have n0 : ¬ (x.d < 1 ∨ 10 < x.d) := by omega
    have n8 : ¬ x.d = 8 := by omega
    have n9 : ¬ x.d = 9 := by omega
    have hns : ¬ ¬ (0 ≤ x.s ∧ x.s < 5) := fun q => q c2
    have m1 : ¬ x.d = 1 := by omega
    have m2 : ¬ x.d = 2 := by omega
    have m3 : ¬ x.d = 3 := by omega
    rw [if_neg n0, if_neg n0, if_neg n8, if_neg n8, if_neg n9, if_neg n9, if_neg hns, if_neg hns, c3]
    dsimp only
    rw [if_neg m1, if_neg m1, if_neg m2, if_neg m2, if_neg m3, if_neg m3, if_pos c1, if_pos c1]; exact ⟨rfl, rfl⟩
  | list d c1 c2 c3 =>
    have n0 : ¬ (x.d < 1 ∨ 10 < x.d) := by omega
    have n8 : ¬ x.d = 8 := by omega
    have n9 : ¬ x.d = 9 := by omega
    have hns : ¬ ¬ (0 ≤ x.s ∧ x.s < 5) := fun q => q c2
    have m1 : ¬ x.d = 1 := by omega
    have m2 : ¬ x.d = 2 := by omega
    have m3 : ¬ x.d = 3 := by omega
    have m4 : ¬ x.d = 4 := by omega
    rw [if_neg n0, if_neg n0, if_neg n8, if_neg n8, if_neg n9, if_neg n9, if_neg hns, if_neg hns, c3]
    dsimp only
    rw [if_neg m1, if_neg m1, if_neg m2, if_neg m2, if_neg m3, if_neg m3, if_neg m4, if_neg m4, if_pos c1, if_pos c1]; exact ⟨rfl, rfl⟩
  | commit d c1 c2 c3 =>
    have n0 : ¬ (x.d < 1 ∨ 10 < x.d) := by omega
    have n8 : ¬ x.d = 8 := by omega
    have n9 : ¬ x.d = 9 := by omega
    have hns : ¬ ¬ (0 ≤ x.s ∧ x.s < 5) := fun q => q c2
    have m1 : ¬ x.d = 1 := by omega
    have m2 : ¬ x.d = 2 := by omega
    have m3 : ¬ x.d = 3 := by omega
    have m4 : ¬ x.d = 4 := by omega
    have m5 : ¬ x.d = 5 := by omega
    rw [if_neg n0, if_neg n0, if_neg n8, if_neg n8, if_neg n9, if_neg n9, if_neg hns, if_neg hns, c3]
    dsimp only
    rw [if_neg m1, if_neg m1, if_neg m2, if_neg m2, if_neg m3, if_neg m3, if_neg m4, if_neg m4, if_neg m5, if_neg m5, if_pos c1, if_pos c1]; exact ⟨rfl, rfl⟩
  | tear d c1 c2 c3 =>
    have n0 : ¬ (x.d < 1 ∨ 10 < x.d) := by omega
    have n8 : ¬ x.d = 8 := by omega
    have n9 : ¬ x.d = 9 := by omega
    have hns : ¬ ¬ (0 ≤ x.s ∧ x.s < 5) := fun q => q c2
    have m1 : ¬ x.d = 1 := by omega
    have m2 : ¬ x.d = 2 := by omega
    have m3 : ¬ x.d = 3 := by omega
    have m4 : ¬ x.d = 4 := by omega
    have m5 : ¬ x.d = 5 := by omega
    have m6 : ¬ x.d = 6 := by omega
    rw [if_neg n0, if_neg n0, if_neg n8, if_neg n8, if_neg n9, if_neg n9, if_neg hns, if_neg hns, c3]
    dsimp only
    rw [if_neg m1, if_neg m1, if_neg m2, if_neg m2, if_neg m3, if_neg m3, if_neg m4, if_neg m4, if_neg m5, if_neg m5, if_neg m6, if_neg m6, if_pos c1, if_pos c1]; exact ⟨rfl, rfl⟩
  | abort d c1 c2 c3 =>
    have n0 : ¬ (x.d < 1 ∨ 10 < x.d) := by omega
    have n8 : ¬ x.d = 8 := by omega
    have n9 : ¬ x.d = 9 := by omega
    have hns : ¬ ¬ (0 ≤ x.s ∧ x.s < 5) := fun q => q c2
    have m1 : ¬ x.d = 1 := by omega
    have m2 : ¬ x.d = 2 := by omega
    have m3 : ¬ x.d = 3 := by omega
    have m4 : ¬ x.d = 4 := by omega
    have m5 : ¬ x.d = 5 := by omega
    have m6 : ¬ x.d = 6 := by omega
    have m10 : ¬ x.d = 10 := by omega
    rw [if_neg n0, if_neg n0, if_neg n8, if_neg n8, if_neg n9, if_neg n9, if_neg hns, if_neg hns, c3]
    dsimp only
    rw [if_neg m1, if_neg m1, if_neg m2, if_neg m2, if_neg m3, if_neg m3, if_neg m4, if_neg m4, if_neg m5, if_neg m5, if_neg m6, if_neg m6, if_neg m10, if_neg m10]; exact ⟨rfl, rfl⟩
/-- The same step: the same is told, but of what is forgotten. -/
theorem HRel.step {h g : HSt} (r : HRel h g) (x : HStep) (hx : x.d ≠ 8) (ho : (hev h x).c ≠ 12) : hev h x = hev g x ∧ HRel (hdo h x) (hdo g x) := by
  have hi' := r.hi.step x
  have gi' := r.gi.step x
  obtain ⟨f, n, cs, seat⟩ := h
  obtain ⟨f2, n2, cs2, seat2⟩ := g
  obtain ⟨hi, gi, sfx, e1, e2, e3⟩ := r
  dsimp only at e1 e2 e3 sfx
  subst e1 e2 e3
  have known := hi.known
  have ginv := gi.inv
  dsimp only at known ginv
  have hk := hkind ⟨f, n, cs, seat⟩ x
  generalize hdo ⟨f, n, cs, seat⟩ x = h2 at *
  generalize hev ⟨f, n, cs, seat⟩ x = e at *
  cases hk with
  | kind c =>
    obtain ⟨q1, q2⟩ := (HKind.kind (h := ⟨f2, n, cs, seat⟩) (x := x) c).eq
    rw [q1, q2]; exact ⟨rfl, hi, gi, sfx, rfl, rfl, rfl⟩
  | clear c => exact absurd c hx
  | crash c =>
    obtain ⟨q1, q2⟩ := (HKind.crash (h := ⟨f2, n, cs, seat⟩) (x := x) c).eq
    rw [q1] at gi'
    rw [q1, q2]; exact ⟨rfl, hi', gi', sfx_refl hi'.inv, rfl, rfl, rfl⟩
  | range c1 c2 =>
    obtain ⟨q1, q2⟩ := (HKind.range (h := ⟨f2, n, cs, seat⟩) (x := x) c1 c2).eq
    rw [q1, q2]; exact ⟨rfl, hi, gi, sfx, rfl, rfl, rfl⟩
  | began c1 c2 c3 c4 =>
    have hm := sfx_fmx sfx ginv
    have c4' : bcode f2 n x.md x.at_ = 0 := by
      dsimp only at c4
      unfold bcode at c4 ⊢
      split
      · rename_i p1
        rw [if_pos p1] at c4
        split
        · rename_i p2
          rw [if_pos p2] at c4
          by_cases p3 : x.at_ < 0 ∨ (n : Int) < x.at_
          · rw [if_pos p3] at c4; simp at c4
          · rw [if_neg p3] at c4 ⊢
            by_cases p4 : x.at_ < fmx f 8
            · rw [if_pos p4] at c4; simp at c4
            · rw [if_neg (by omega)]
        · rfl
      · rename_i p1
        rw [if_neg p1] at c4; exact c4
    obtain ⟨q1, q2⟩ := (HKind.began (h := ⟨f2, n, cs, seat⟩) (x := x) c1 c2 c3 c4').eq
    rw [q1] at gi'
    rw [q1, q2]; exact ⟨rfl, hi', gi', sfx, rfl, rfl, rfl⟩
  | beganNot c1 c2 c3 c4 =>
    have hb : bcode f n x.md x.at_ = bcode f2 n x.md x.at_ := by
      dsimp only [evc] at ho
      unfold bcode at ho ⊢
      split
      · rename_i p1
        rw [if_pos p1] at ho
        split
        · rename_i p2
          rw [if_pos p2] at ho
          by_cases p3 : x.at_ < 0 ∨ (n : Int) < x.at_
          · rw [if_pos p3, if_pos p3]
          · rw [if_neg p3] at ho
            rw [if_neg p3, if_neg p3]
            by_cases p4 : x.at_ < fmx f 8
            · rw [if_pos p4] at ho; exact absurd rfl ho
            · have hm := sfx_fmx sfx ginv
              rw [if_neg p4, if_neg (by omega)]
        · rfl
      · rfl
    have c4' : ¬ bcode f2 n x.md x.at_ = 0 := fun q => c4 (hb.trans q)
    obtain ⟨q1, q2⟩ := (HKind.beganNot (h := ⟨f2, n, cs, seat⟩) (x := x) c1 c2 c3 c4').eq
    rw [q1, q2]; exact ⟨congrArg evc hb, hi, gi, sfx, rfl, rfl, rfl⟩
  | none_ c1 c2 c3 =>
    obtain ⟨q1, q2⟩ := (HKind.none_ (h := ⟨f2, n, cs, seat⟩) (x := x) c1 c2 c3).eq
    rw [q1, q2]; exact ⟨rfl, hi, gi, sfx, rfl, rfl, rfl⟩
  | there d c1 c2 c3 =>
    obtain ⟨q1, q2⟩ := (HKind.there (h := ⟨f2, n, cs, seat⟩) (x := x) d c1 c2 c3).eq
    rw [q1, q2]; exact ⟨rfl, hi, gi, sfx, rfl, rfl, rfl⟩
  | get d c1 c2 c3 =>
    obtain ⟨q1, q2⟩ := (HKind.get (h := ⟨f2, n, cs, seat⟩) (x := x) d c1 c2 c3).eq
    have hy := (known _ d c3).1
    rw [q1] at gi'
    rw [q1, q2]
    dsimp only
    rw [dg_sfx sfx ginv hy]
    refine ⟨rfl, hi', gi', sfx, rfl, rfl, ?_⟩
    dsimp only [sit]
    rw [dr_sfx sfx ginv hy]
  | put d c1 c2 c3 =>
    obtain ⟨q1, q2⟩ := (HKind.put (h := ⟨f2, n, cs, seat⟩) (x := x) d c1 c2 c3).eq
    rw [q1] at gi'
    rw [q1, q2]; exact ⟨rfl, hi', gi', sfx, rfl, rfl, rfl⟩
  | drop d c1 c2 c3 =>
    obtain ⟨q1, q2⟩ := (HKind.drop (h := ⟨f2, n, cs, seat⟩) (x := x) d c1 c2 c3).eq
    rw [q1] at gi'
    rw [q1, q2]; exact ⟨rfl, hi', gi', sfx, rfl, rfl, rfl⟩
  | list d c1 c2 c3 =>
    obtain ⟨q1, q2⟩ := (HKind.list (h := ⟨f2, n, cs, seat⟩) (x := x) d c1 c2 c3).eq
    have hy := (known _ d c3).1
    rw [q1] at gi'
    rw [q1, q2]
    dsimp only
    rw [dls_sfx sfx ginv hy]
    refine ⟨rfl, ?_, gi', sfx, rfl, rfl, rfl⟩
    dsimp only at hi'
    rw [dls_sfx sfx ginv hy] at hi'
    exact hi'
  | commit d c1 c2 c3 =>
    obtain ⟨q1, q2⟩ := (HKind.commit (h := ⟨f2, n, cs, seat⟩) (x := x) d c1 c2 c3).eq
    obtain ⟨v1, v2, v3, v4⟩ := vs_sfx (n := n) (y := d.y) (ws := d.ws) sfx cs d.md d.rs
    rw [q1] at gi'
    rw [q1, q2]
    dsimp only
    rw [(v_sfx sfx cs d.md d.rs).1, v1]
    exact ⟨rfl, hi', gi', v4, v2, v3, rfl⟩
  | tear d c1 c2 c3 =>
    obtain ⟨q1, q2⟩ := (HKind.tear (h := ⟨f2, n, cs, seat⟩) (x := x) d c1 c2 c3).eq
    obtain ⟨t1, t2⟩ := t_sfx (y := d.y) (ws := d.ws) sfx cs d.md d.rs x.keep
    rw [q1] at gi'
    rw [q1, q2]
    dsimp only at hi' ⊢
    rw [(v_sfx sfx cs d.md d.rs).1, t2]
    rw [t1] at hi' ⊢
    exact ⟨rfl, hi', gi', sfx_refl gi'.inv, rfl, rfl, rfl⟩
  | abort d c1 c2 c3 =>
    obtain ⟨q1, q2⟩ := (HKind.abort (h := ⟨f2, n, cs, seat⟩) (x := x) d c1 c2 c3).eq
    rw [q1] at gi'
    rw [q1, q2]; exact ⟨rfl, hi', gi', sfx, rfl, rfl, rfl⟩
end
/- A hall's begin, by its contract. -/
section
open Go.RowKit
attribute [local go_sem ↓] Go.wp_at_zero Go.wp_at_succ

def xcs (x : HStep) : Array Value := #[.int .i64 x.d, .int .i64 x.s, .int .i64 x.md, .int .i64 x.at_, .int .i64 x.key, .int .i64 x.to_, .int .i64 x.keep, .string x.b]
theorem Sts.put {st : Nat → Sd} {seat : Nat → Option Dp} (h : Sts st seat) (s : Nat) (d : Sd) : Sts (upd st s d) (upd seat s (d.map Prod.snd)) := fun j => by
  simp only [upd]
  split
  · rfl
  · exact h j
theorem upd_id {α : Type} {g : Nat → α} {k : Nat} {v : α} (h : g k = v) : upd g k v = g := by
  funext j
  unfold upd
  split
  · rename_i e; rw [e, h]
  · rfl
section
variable {w0 w : World} {hb vb tb gb : Nat} {h : HSt} {st : Nat → Sd} {r : List Thing}
theorem Hall.as {h' : HSt} (hz : Hall w0 w hb vb tb gb h st r) (e1 : h'.f = h.f) (e2 : h'.n = h.n) (e3 : h'.cs = h.cs) : Hall w0 w hb vb tb gb h' st r := by
  unfold Hall at hz ⊢
  rw [e1, e2, e3]
  exact hz
theorem h_vbegin {md at_ : Int} (hb0 : bcode h.f h.n md at_ = 0) (hz : Hall w0 w hb vb tb gb h st r) :
    Calls Tryz.prog 131 #[.pointer (some ⟨vb, 0, none⟩), .int .i64 md, .int .i64 at_] w fun e w' => ∃ D, e = .returned (.tuple #[.pointer (some ⟨D, 0, none⟩), .int .i64 0]) ∧ Hid (Hall w0 w' hb vb tb gb h st (OptT (some (D, ⟨md, bat h.n md at_, [], []⟩)) :: r)) := by
  refine (b_begin hb0 hz.vlt).mono ?_
  rintro e w' ⟨D, rfl, HZ⟩
  refine ⟨D, rfl, ?_⟩
  have h1 := unhide HZ
  have p1 : Zoo w0 w' (OptT (some (D, ⟨md, bat h.n md at_, [], []⟩)) :: BoxT hb (hcells vb st) 59 :: VltT vb tb gb h.f h.n h.cs [] :: (seats st ++ r)) := h1.perm ((List.Perm.swap _ _ _).trans (List.Perm.cons _ (List.Perm.swap _ _ _)))
  exact p1.perm (List.perm_middle (l₁ := BoxT hb (hcells vb st) 59 :: VltT vb tb gb h.f h.n h.cs [] :: seats st)).symm
theorem h_vnone {md at_ z : Int} (hb0 : bcode h.f h.n md at_ = z) (h0 : z ≠ 0) (hz : Hall w0 w hb vb tb gb h st r) :
    Calls Tryz.prog 131 #[.pointer (some ⟨vb, 0, none⟩), .int .i64 md, .int .i64 at_] w fun e w' => e = .returned (.tuple #[.pointer none, .int .i64 z]) ∧ Hid (Hall w0 w' hb vb tb gb h st r) := by
  refine (b_none hb0 h0 hz.vlt).mono ?_
  rintro e w' ⟨rfl, HZ⟩
  exact ⟨rfl, zoo_swap (unhide HZ)⟩
/-- A new deed sits down at an empty seat. -/
theorem Hall.sitNew {D : Nat} {d : Dp} {l1 l2 : List Thing} (hz : Hall w0 w hb vb tb gb h st (l1 ++ OptT (some (D, d)) :: l2)) {s : Nat} (hs : s < 5) (hn : st s = none) : Hall w0 (w.setCell ⟨hb, 1 + s, none⟩ (.pointer (some ⟨D, 0, none⟩))) hb vb tb gb h (upd st s (some (D, d))) (l1 ++ l2) := by
  have h1 := hz.perm (List.perm_middle (l₁ := l1))
  have h2 : Zoo w0 w (VltT vb tb gb h.f h.n h.cs [] :: OptT (some (D, d)) :: BoxT hb (hcells vb st) 59 :: (seats st ++ (l1 ++ l2))) := by
    have p := Zoo.perm h1 (List.perm_middle (l₁ := BoxT hb (hcells vb st) 59 :: VltT vb tb gb h.f h.n h.cs [] :: seats st))
    exact p.perm ((List.Perm.cons _ (List.Perm.swap _ _ _)).trans (List.Perm.swap _ _ _))
  exact Hall.join h2 hs hn

/-- What begin leaves. -/
def BgEnd (w0 : World) (hb vb tb gb : Nat) (r : List Thing) (h' : HSt) (v : Ev) (e : Ending) (w' : World) : Prop := ∃ st', e = .returned (.int .i64 v.c) ∧ v = evc v.c ∧ Sts st' h'.seat ∧ Hid (Hall w0 w' hb vb tb gb h' st' r)
set_option maxHeartbeats 1000000 in
theorem h_begin (x : HStep) (hx : x.d = 1) (hs : Sts st h.seat) (hz : Hall w0 w hb vb tb gb h st r) :
    Calls Tryz.prog 90 #[.pointer (some ⟨hb, 0, none⟩), .agg #[.int .i64 x.d, .int .i64 x.s, .int .i64 x.md, .int .i64 x.at_, .int .i64 x.key, .int .i64 x.to_, .int .i64 x.keep, .string x.b]] w fun e w' => BgEnd w0 hb vb tb gb r (hdo h x) (hev h x) e w' := by
  have HS := hide hs
  have HX := hide (hz.new (xcs x) 79)
  by_cases hsx : 0 ≤ x.s ∧ x.s < 5
  · obtain ⟨j, hj, h5⟩ := seat_in hsx
    have hjs : x.s.toNat = j := by omega
    have hsb : seatB (j : Int) = true := decide_eq_true (by omega)
    have i0 : (0 : Int) ≤ (j : Int) := by omega
    have i5 : (j : Int) < 5 := by omega
    cases hsd : st j with
    | some xx =>
      have hsj : h.seat j = some xx.2 := by rw [← hs j, hsd]; rfl
      have heq := (HKind.there (h := h) (x := x) xx.2 hx hsx (by rw [hjs]; exact hsj)).eq
      rw [heq.1, heq.2]
      clear heq hz hs
      have hda : dat st (j : Int) = some xx := by rw [dat_in h5, hsd]
      obtain ⟨xd, xs, xm, xa, xk, xt, xp, xb⟩ := x
      dsimp only [xcs] at *
      subst hx hj
      go_enter Tryz.func90, Tryz.ntmps90
      go_wp2_with fail
      generalize w.alloc (.cells #[.int .i64 1, .int .i64 (j : Int), .int .i64 xm, .int .i64 xa, .int .i64 xk, .int .i64 xt, .int .i64 xp, .string xb] 79) = W at HX ⊢
      generalize w.heap.size = q at HX ⊢
      have hq := (unhide HX).var (List.Mem.head _)
      have x1 : W.cell? ⟨q, 1, none⟩ = some (.int .i64 (j : Int)) := cell_of_block hq rfl
      clear hq
      refine (hseat (j : Int) _).mono ?_
      rintro e w' ⟨rfl, hw'⟩
      subst w'
      rw [hsb]
      go_wp2_with fail
      refine (h_busy (j : Int) (unhide HX)).mono ?_
      rintro e w' ⟨rfl, hw'⟩
      subst w'
      rw [hda, show Option.isSome (some xx) = true from rfl]
      go_wp2_with fail
      go_ret
      exact ⟨st, rfl, rfl, unhide HS, (unhide HX).tail⟩
    | none =>
      have hsj : h.seat j = none := by rw [← hs j, hsd]; rfl
      have hda : dat st (j : Int) = none := by rw [dat_in h5, hsd]
      by_cases hb0 : bcode h.f h.n x.md x.at_ = 0
      · have heq := (HKind.began (h := h) (x := x) hx hsx (by rw [hjs]; exact hsj) hb0).eq
        rw [heq.1, heq.2]
        clear heq hz hs
        have HB0 := hide hb0
        clear hb0
        obtain ⟨xd, xs, xm, xa, xk, xt, xp, xb⟩ := x
        dsimp only [xcs] at *
        subst hx hj
        go_enter Tryz.func90, Tryz.ntmps90
        go_wp2_with fail
        generalize w.alloc (.cells #[.int .i64 1, .int .i64 (j : Int), .int .i64 xm, .int .i64 xa, .int .i64 xk, .int .i64 xt, .int .i64 xp, .string xb] 79) = W at HX ⊢
        generalize w.heap.size = q at HX ⊢
        have hq := (unhide HX).var (List.Mem.head _)
        have x1 : W.cell? ⟨q, 1, none⟩ = some (.int .i64 (j : Int)) := cell_of_block hq rfl
        have x2 : W.cell? ⟨q, 2, none⟩ = some (.int .i64 xm) := cell_of_block hq rfl
        have x3 : W.cell? ⟨q, 3, none⟩ = some (.int .i64 xa) := cell_of_block hq rfl
        clear hq
        refine (hseat (j : Int) _).mono ?_
        rintro e w' ⟨rfl, hw'⟩
        subst w'
        rw [hsb]
        go_wp2_with fail
        refine (h_busy (j : Int) (unhide HX)).mono ?_
        rintro e w' ⟨rfl, hw'⟩
        subst w'
        rw [hda, show Option.isSome (none : Sd) = false from rfl]
        have c0 := (unhide HX).c0
        have HV := hide (fun W' (hk : Kp [] W W') => h_vbegin (unhide HB0) ((unhide HX).kp0 hk))
        go_wp2_with fail
        go_region_with (go_at_call 131; refine (unhide HV _ ((Kp.refl [] W).drewN _)).mono ?_; rintro e w' ⟨D, rfl, HY⟩)
        all_goals
          have hq2 := (unhide HY).var (List.Mem.tail _ (List.Mem.head _))
          have y1 : w'.cell? ⟨q, 1, none⟩ = some (.int .i64 (j : Int)) := cell_of_block hq2 rfl
          have c2 := (unhide HY).cs_ h5
          have f2 := (unhide HY).fz (1 + j)
          rw [hsd] at c2
          clear hq2 x1 x2 x3 c0 HV
          go_wp2_with fail
          go_region
        all_goals
          go_wp2_with fail
          go_ret
          exact ⟨upd st j (some (D, _)), rfl, rfl, by show Sts _ (upd h.seat ((j : Int).toNat) _); rw [hjs]; exact (unhide HS).put j _, ((((unhide HY).sitNew (l1 := []) h5 hsd).tail).kp0 (Kp.refl [] _).drew).as rfl rfl rfl⟩
      · have heq := (HKind.beganNot (h := h) (x := x) hx hsx (by rw [hjs]; exact hsj) hb0).eq
        rw [heq.1, heq.2]
        clear heq hz hs
        have HB0 := hide hb0
        clear hb0
        generalize hzz : bcode h.f h.n x.md x.at_ = z at HB0 ⊢
        have HZ0 := hide hzz
        clear hzz
        obtain ⟨xd, xs, xm, xa, xk, xt, xp, xb⟩ := x
        dsimp only [xcs] at *
        subst hx hj
        go_enter Tryz.func90, Tryz.ntmps90
        go_wp2_with fail
        generalize w.alloc (.cells #[.int .i64 1, .int .i64 (j : Int), .int .i64 xm, .int .i64 xa, .int .i64 xk, .int .i64 xt, .int .i64 xp, .string xb] 79) = W at HX ⊢
        generalize w.heap.size = q at HX ⊢
        have hq := (unhide HX).var (List.Mem.head _)
        have x1 : W.cell? ⟨q, 1, none⟩ = some (.int .i64 (j : Int)) := cell_of_block hq rfl
        have x2 : W.cell? ⟨q, 2, none⟩ = some (.int .i64 xm) := cell_of_block hq rfl
        have x3 : W.cell? ⟨q, 3, none⟩ = some (.int .i64 xa) := cell_of_block hq rfl
        clear hq
        refine (hseat (j : Int) _).mono ?_
        rintro e w' ⟨rfl, hw'⟩
        subst w'
        rw [hsb]
        go_wp2_with fail
        refine (h_busy (j : Int) (unhide HX)).mono ?_
        rintro e w' ⟨rfl, hw'⟩
        subst w'
        rw [hda, show Option.isSome (none : Sd) = false from rfl]
        have c0 := (unhide HX).c0
        have HV := hide (fun W' (hk : Kp [] W W') => h_vnone (unhide HZ0) (unhide HB0) ((unhide HX).kp0 hk))
        go_wp2_with fail
        go_region_with (go_at_call 131; refine (unhide HV _ ((Kp.refl [] W).drewN _)).mono ?_; rintro e w' ⟨rfl, HY⟩)
        all_goals
          have hq2 := (unhide HY).var (List.Mem.head _)
          have y1 : w'.cell? ⟨q, 1, none⟩ = some (.int .i64 (j : Int)) := cell_of_block hq2 rfl
          have c2 := (unhide HY).cs_ h5
          have f2 := (unhide HY).fz (1 + j)
          rw [hsd] at c2
          clear hq2 x1 x2 x3 c0 HV
          go_wp2_with fail
          go_region
        all_goals
          go_wp2_with fail
          go_ret
          exact ⟨st, rfl, rfl, unhide HS, by have h9 := (unhide HY).leave h5; rw [upd_id hsd] at h9; exact (h9.tail.tail).kp0 (Kp.refl [] _).drew⟩
  · have heq := (HKind.range (h := h) (x := x) (by omega) hsx).eq
    rw [heq.1, heq.2]
    clear heq hz hs
    have hsb : seatB x.s = false := decide_eq_false hsx
    obtain ⟨xd, xs, xm, xa, xk, xt, xp, xb⟩ := x
    dsimp only [xcs] at *
    subst hx
    go_enter Tryz.func90, Tryz.ntmps90
    go_wp2_with fail
    refine (hseat xs _).mono ?_
    rintro e w' ⟨rfl, hw'⟩
    subst w'
    rw [hsb]
    go_wp2_with fail
    go_ret
    exact ⟨st, rfl, rfl, unhide HS, (unhide HX).tail⟩
end
end
/- The desk's fill: a line's words laid into its step, by its contract. -/
section
open Go.RowKit
attribute [local go_sem ↓] Go.wp_at_zero Go.wp_at_succ

theorem zoo_setc {w0 w : World} {l1 r : List Thing} {p i : Nat} {v : Value} {c : Array Value} {T : TypeId} (hz : Zoo w0 w (l1 ++ BoxT p c T :: r)) : Zoo w0 (w.setCell ⟨p, i, none⟩ v) (l1 ++ BoxT p (c.setIfInBounds i v) T :: r) := by
  obtain ⟨F, ⟨h1, h2, h3⟩, k⟩ := hz.at_
  subst h2
  refine k _ _ ⟨[p], ⟨?_, rfl, h3⟩, (Kp.refl [p] w).setCell (.inl (by simp)) _, fun x hx => .inl hx⟩
  rw [heap_setCell_at i _ h1]
theorem size_box (w : World) (c : Array Value) (T : TypeId) : (w.alloc (.cells c T)).heap.size = w.heap.size + 1 := by simp
theorem zoo_box2 {w0 w : World} {r : List Thing} (hz : Zoo w0 w r) (a b : Array Value) (A B : TypeId) : Zoo w0 ((w.alloc (.cells a A)).alloc (.cells b B)) (BoxT (w.heap.size + 1) b B :: BoxT w.heap.size a A :: r) := by
  have h := (hz.box a A).box b B
  rw [size_box] at h
  exact h
theorem zoo_box3 {w0 w : World} {r : List Thing} (hz : Zoo w0 w r) (a b c : Array Value) (A B C : TypeId) : Zoo w0 (((w.alloc (.cells a A)).alloc (.cells b B)).alloc (.cells c C)) (BoxT (w.heap.size + 1 + 1) c C :: BoxT (w.heap.size + 1) b B :: BoxT w.heap.size a A :: r) := by
  have h := (zoo_box2 hz a b A B).box c C
  rw [size_box, size_box] at h
  exact h
theorem zoo_setrow {w0 w : World} {l1 r : List Thing} {p : Nat} {c c' : Array Value} {T : TypeId} (hz : Zoo w0 w (l1 ++ BoxT p c T :: r)) : Zoo w0 (w.setRow p c') (l1 ++ BoxT p c' T :: r) := by
  obtain ⟨F, ⟨h1, h2, h3⟩, k⟩ := hz.at_
  subst h2
  obtain ⟨z1, z2⟩ := setRow_kp (cs := c') h1
  exact k _ _ ⟨[p], ⟨z1, rfl, h3⟩, z2, fun x hx => .inl hx⟩
theorem Tryz.sizeSt : (Tryz.prog.info? 79).map (·.size) = some 8 := by kernel_rfl
theorem stload {w : World} {p : Nat} {c : Array Value} (hs : c.size = 8) (h : w.heap[p]? = some (.cells c 79 (0, 0))) : (loadVar 79 ⟨p, 0, none⟩).run Tryz.prog w = .ok (.agg c) w :=
  run_loadVar_row w p 79 79 c (0, 0) _ h Tryz.underlying79 rfl (by rw [hs]; exact Tryz.sizeSt)
theorem xcs_one (x : HStep) : (xcs x).all (·.oneCell') = true := by simp [xcs, Value.oneCell']
theorem u8_ne {c d : UInt8} {m : Int} (h : ¬ c = d) (hd : (d.toNat : Int) = m) : ¬ ((c.toNat : Int) = m) := fun e => h (UInt8.toNat_inj.1 (by omega))
theorem fgo_nil (x : HStep) (ws : List (List UInt8)) : fgo x [] ws = some x := by cases ws <;> simp [fgo]
def FlEnd (r : Option HStep) (w : World) (e : Ending) (w' : World) : Prop := ∃ (x : HStep) (b : Bool), e = .returned (.tuple #[.agg (xcs x), .bool b]) ∧ r = (if b = true then some x else none) ∧ Kp [] w w'
theorem flEnd_mk {r : Option HStep} {w w' : World} (x : HStep) (b : Bool) (h : r = (if b = true then some x else none)) (hk : Kp [] w w') : FlEnd r w (.returned (.tuple #[.agg (xcs x), .bool b])) w' := ⟨x, b, rfl, h, hk⟩
theorem fgo_step {x : HStep} {ls : List UInt8} {ws : List (List UInt8)} {k : Nat} {c : UInt8} {v : List UInt8} (hc : ls[k]? = some c) (hv : ws[k]? = some v) : fgo x (ls.drop k) (ws.drop k) = match put1 x c v with | some y => fgo y (ls.drop (k + 1)) (ws.drop (k + 1)) | none => none := by
  have h1 : ls.drop k = c :: ls.drop (k + 1) := by
    obtain ⟨hk, e⟩ := List.getElem?_eq_some_iff.1 hc
    rw [List.drop_eq_getElem_cons hk, e]
  have h2 : ws.drop k = v :: ws.drop (k + 1) := by
    obtain ⟨hk, e⟩ := List.getElem?_eq_some_iff.1 hv
    rw [List.drop_eq_getElem_cons hk, e]
  rw [h1, h2, fgo]
  cases put1 x c v <;> rfl
theorem get_lit (ls : List UInt8) (k : Nat) (h : k < (ByteArray.mk ls.toArray).size) (c : UInt8) (hc : ls[k]? = some c) : (ByteArray.mk ls.toArray)[k]'h = c := by
  obtain ⟨hk, e⟩ := List.getElem?_eq_some_iff.1 hc
  show ls.toArray[k]'_ = c
  simpa using e
set_option maxHeartbeats 4000000 in
theorem dfill (o : Od) (ws : List (List UInt8)) (n : Nat) (hn : n = ws.length) (hl : o.letters.length = n) (hn3 : n ≤ 100) (a : Option Addr) (cap : Nat) (w : World) (hg : Gnd w) (hw : Wrd w a ws) (hws : ∀ v ∈ ws, v.length ≤ 10000) :
    Calls Tryz.prog 52 #[.agg (odv o).toArray, .slice a n cap] w fun e w' => FlEnd (fil o ws) w e w' := by
  obtain ⟨nm, ls, kd, md⟩ := o
  dsimp only at hl
  have hsz : (ByteArray.mk ls.toArray).size = n := by rw [size8]; exact hl
  have HZ0 := hide (zoo_box3 (zoo_nil (Kp.refl [] w)) #[.string ⟨nm.toArray⟩, .string ⟨ls.toArray⟩, .int .i64 kd, .int .i64 md] #[.int .i64 0, .int .i64 0, .int .i64 0, .int .i64 0, .int .i64 0, .int .i64 0, .int .i64 0, .string ⟨#[]⟩] #[.int .i64 kd, .int .i64 0, .int .i64 md, .int .i64 0, .int .i64 0, .int .i64 0, .int .i64 0, .string ⟨#[]⟩] 120 79 79)
  have HG := hide hg
  have HW := hide hw
  have HN := hide hn
  have HL := hide hl
  have HS := hide hws
  clear hg hw hn hl hws
  show Calls Tryz.prog 52 #[.agg #[.string ⟨nm.toArray⟩, .string ⟨ls.toArray⟩, .int .i64 kd, .int .i64 md], .slice a n cap] w fun e w' => FlEnd (fil ⟨nm, ls, kd, md⟩ ws) w e w'
  go_enter Tryz.func52, Tryz.ntmps52
  go_wp2_with fail
  generalize ((w.alloc (.cells #[.string ⟨nm.toArray⟩, .string ⟨ls.toArray⟩, .int .i64 kd, .int .i64 md] 120)).alloc (.cells #[.int .i64 0, .int .i64 0, .int .i64 0, .int .i64 0, .int .i64 0, .int .i64 0, .int .i64 0, .string ⟨#[]⟩] 79)).alloc (.cells #[.int .i64 kd, .int .i64 0, .int .i64 md, .int .i64 0, .int .i64 0, .int .i64 0, .int .i64 0, .string ⟨#[]⟩] 79) = W at *
  generalize w.heap.size + 1 + 1 = pX at *
  generalize w.heap.size + 1 = pR at *
  generalize w.heap.size = pO at *
  go_loopw [17] (fun t wr => ∃ (k : Nat) (x : HStep), k ≤ n ∧ t = .int .i64 k ∧ Hid (fil ⟨nm, ls, kd, md⟩ ws = fgo x (ls.drop k) (ws.drop k)) ∧ Hid (Zoo w wr [BoxT pX (xcs x) 79, BoxT pR #[.int .i64 0, .int .i64 0, .int .i64 0, .int .i64 0, .int .i64 0, .int .i64 0, .int .i64 0, .string ⟨#[]⟩] 79, BoxT pO #[.string ⟨nm.toArray⟩, .string ⟨ls.toArray⟩, .int .i64 kd, .int .i64 md] 120])) (fun t _ => n - (intOf t).toNat)
  case atStart => exact ⟨0, ⟨kd, 0, md, 0, 0, 0, 0, ⟨#[]⟩⟩, Nat.zero_le _, rfl, rfl, HZ0⟩
  case round =>
    obtain ⟨k, x, hk, rfl, HI, HZ⟩ := hrel
    have hO := zoo_varm (unhide HZ) (List.Mem.tail _ (List.Mem.tail _ (List.Mem.head _)))
    have hR := zoo_varm (unhide HZ) (List.Mem.tail _ (List.Mem.head _))
    have hX := zoo_varm (unhide HZ) (List.Mem.head _)
    by_cases hlt : k < n
    · have i0 : (0 : Int) ≤ (k : Int) := by omega
      have i1 : (k : Int) < (n : Int) := by omega
      have hkl : k < ls.length := by rw [unhide HL]; exact hlt
      have hkw : k < ws.length := by rw [← unhide HN]; exact hlt
      obtain ⟨c, hc⟩ : ∃ c, ls[k]? = some c := ⟨_, List.getElem?_eq_getElem hkl⟩
      obtain ⟨v, hv⟩ : ∃ v, ws[k]? = some v := ⟨_, List.getElem?_eq_getElem hkw⟩
      obtain ⟨g, ao, rfl, hwd⟩ := ((unhide HW).kp0 (unhide HZ).kp) (by omega)
      have z1 := hwd k v hv
      have c1 : wr.cell? ⟨pO, 1, none⟩ = some (.string ⟨ls.toArray⟩) := cell_of_block hO rfl
      have hvl := unhide HS v (List.mem_of_getElem? hv)
      have hgn := gnd_kp (unhide HG) (unhide HZ).kp
      have HNU := hide (dnum v wr hgn hvl)
      have HMT := hide (dmeant v wr hvl)
      have hget := get_lit ls k (by rw [size8]; exact hkl) c hc
      have j1 : (k : Int) < ((ByteArray.mk ls.toArray).size : Int) := by rw [hsz]; exact i1
      have HST := hide (fgo_step (x := x) hc hv)
      clear hwd hgn hc hv hvl hO hR hX hkw
      by_cases h83 : c = 83
      · subst h83
        go_wp2_with (first | (go_at_call 85; refine (unhide HNU).mono ?_; rintro e w1 ⟨z, b, rfl, hz, hk1⟩; have HZ1 := hide ((unhide HZ).kp0 hk1); have HB := hide hz; have f1 : w1.frozen? ⟨pX, 1, none⟩ = false := frozen_of_block _ (zoo_varm (unhide HZ1) (List.Mem.head _)); have d1 : ∃ y, w1.cell? ⟨pX, 1, none⟩ = some y := ⟨_, cell_of_block (zoo_varm (unhide HZ1) (List.Mem.head _)) rfl⟩; obtain ⟨y, d1⟩ := d1; have HZ2 := hide (zoo_setc (l1 := []) (i := 1) (v := .int .i64 z) (unhide HZ1)); clear hz hk1 ; cases b) | (refine wpList_store_row rfl 79 _ _ rfl pR #[.int .i64 0, .int .i64 0, .int .i64 0, .int .i64 0, .int .i64 0, .int .i64 0, .int .i64 0, .string ⟨#[]⟩] rfl rfl 79 _ (zoo_varm (unhide HZ2) (List.Mem.tail _ (List.Mem.head _))) Tryz.sizeSt rfl (by simp [Value.oneCell']) ?_))
        · have fin : fil ⟨nm, ls, kd, md⟩ ws = none := by
            rw [unhide HI, unhide HST]
            simp [put1, show num v = none from by simpa using unhide HB]
          have hz3 := zoo_setrow (c' := xcs ⟨0, 0, 0, 0, 0, 0, 0, ⟨#[]⟩⟩) (l1 := [_]) (unhide HZ2)
          have hld := stload rfl (zoo_varm hz3 (List.Mem.tail _ (List.Mem.head _)))
          refine bodyPost_ret (v := .tuple #[.agg (xcs ⟨0, 0, 0, 0, 0, 0, 0, ⟨#[]⟩⟩), .bool false]) ?_ rfl ?_
          · rw [results_cell_tmp Tryz.results52]; simp [asAddr, Result.andThen]; erw [hld]; rfl
          · exact flEnd_mk _ false fin hz3.kp
        · refine ⟨⟨k + 1, { x with s := z }, by omega, by go_num, ?_, ?_⟩, by simp [intOf]; omega⟩
          · rw [unhide HI, unhide HST]
            simp [put1, show num v = some z from by simpa using unhide HB, hide]
          · exact HZ2
      by_cases h65 : c = 65
      · subst h65
        go_wp2_with (first | (go_at_call 85; refine (unhide HNU).mono ?_; rintro e w1 ⟨z, b, rfl, hz, hk1⟩; have HZ1 := hide ((unhide HZ).kp0 hk1); have HB := hide hz; have f1 : w1.frozen? ⟨pX, 3, none⟩ = false := frozen_of_block _ (zoo_varm (unhide HZ1) (List.Mem.head _)); have d1 : ∃ y, w1.cell? ⟨pX, 3, none⟩ = some y := ⟨_, cell_of_block (zoo_varm (unhide HZ1) (List.Mem.head _)) rfl⟩; obtain ⟨y, d1⟩ := d1; have HZ2 := hide (zoo_setc (l1 := []) (i := 3) (v := .int .i64 z) (unhide HZ1)); clear hz hk1 ; cases b) | (refine wpList_store_row rfl 79 _ _ rfl pR #[.int .i64 0, .int .i64 0, .int .i64 0, .int .i64 0, .int .i64 0, .int .i64 0, .int .i64 0, .string ⟨#[]⟩] rfl rfl 79 _ (zoo_varm (unhide HZ2) (List.Mem.tail _ (List.Mem.head _))) Tryz.sizeSt rfl (by simp [Value.oneCell']) ?_))
        · have fin : fil ⟨nm, ls, kd, md⟩ ws = none := by
            rw [unhide HI, unhide HST]
            simp [put1, show num v = none from by simpa using unhide HB]
          have hz3 := zoo_setrow (c' := xcs ⟨0, 0, 0, 0, 0, 0, 0, ⟨#[]⟩⟩) (l1 := [_]) (unhide HZ2)
          have hld := stload rfl (zoo_varm hz3 (List.Mem.tail _ (List.Mem.head _)))
          refine bodyPost_ret (v := .tuple #[.agg (xcs ⟨0, 0, 0, 0, 0, 0, 0, ⟨#[]⟩⟩), .bool false]) ?_ rfl ?_
          · rw [results_cell_tmp Tryz.results52]; simp [asAddr, Result.andThen]; erw [hld]; rfl
          · exact flEnd_mk _ false fin hz3.kp
        · refine ⟨⟨k + 1, { x with at_ := z }, by omega, by go_num, ?_, ?_⟩, by simp [intOf]; omega⟩
          · rw [unhide HI, unhide HST]
            simp [put1, show num v = some z from by simpa using unhide HB, hide]
          · exact HZ2
      by_cases h75 : c = 75
      · subst h75
        go_wp2_with (first | (go_at_call 85; refine (unhide HNU).mono ?_; rintro e w1 ⟨z, b, rfl, hz, hk1⟩; have HZ1 := hide ((unhide HZ).kp0 hk1); have HB := hide hz; have f1 : w1.frozen? ⟨pX, 4, none⟩ = false := frozen_of_block _ (zoo_varm (unhide HZ1) (List.Mem.head _)); have d1 : ∃ y, w1.cell? ⟨pX, 4, none⟩ = some y := ⟨_, cell_of_block (zoo_varm (unhide HZ1) (List.Mem.head _)) rfl⟩; obtain ⟨y, d1⟩ := d1; have HZ2 := hide (zoo_setc (l1 := []) (i := 4) (v := .int .i64 z) (unhide HZ1)); clear hz hk1 ; cases b) | (refine wpList_store_row rfl 79 _ _ rfl pR #[.int .i64 0, .int .i64 0, .int .i64 0, .int .i64 0, .int .i64 0, .int .i64 0, .int .i64 0, .string ⟨#[]⟩] rfl rfl 79 _ (zoo_varm (unhide HZ2) (List.Mem.tail _ (List.Mem.head _))) Tryz.sizeSt rfl (by simp [Value.oneCell']) ?_))
        · have fin : fil ⟨nm, ls, kd, md⟩ ws = none := by
            rw [unhide HI, unhide HST]
            simp [put1, show num v = none from by simpa using unhide HB]
          have hz3 := zoo_setrow (c' := xcs ⟨0, 0, 0, 0, 0, 0, 0, ⟨#[]⟩⟩) (l1 := [_]) (unhide HZ2)
          have hld := stload rfl (zoo_varm hz3 (List.Mem.tail _ (List.Mem.head _)))
          refine bodyPost_ret (v := .tuple #[.agg (xcs ⟨0, 0, 0, 0, 0, 0, 0, ⟨#[]⟩⟩), .bool false]) ?_ rfl ?_
          · rw [results_cell_tmp Tryz.results52]; simp [asAddr, Result.andThen]; erw [hld]; rfl
          · exact flEnd_mk _ false fin hz3.kp
        · refine ⟨⟨k + 1, { x with key := z }, by omega, by go_num, ?_, ?_⟩, by simp [intOf]; omega⟩
          · rw [unhide HI, unhide HST]
            simp [put1, show num v = some z from by simpa using unhide HB, hide]
          · exact HZ2
      by_cases h84 : c = 84
      · subst h84
        go_wp2_with (first | (go_at_call 85; refine (unhide HNU).mono ?_; rintro e w1 ⟨z, b, rfl, hz, hk1⟩; have HZ1 := hide ((unhide HZ).kp0 hk1); have HB := hide hz; have f1 : w1.frozen? ⟨pX, 5, none⟩ = false := frozen_of_block _ (zoo_varm (unhide HZ1) (List.Mem.head _)); have d1 : ∃ y, w1.cell? ⟨pX, 5, none⟩ = some y := ⟨_, cell_of_block (zoo_varm (unhide HZ1) (List.Mem.head _)) rfl⟩; obtain ⟨y, d1⟩ := d1; have HZ2 := hide (zoo_setc (l1 := []) (i := 5) (v := .int .i64 z) (unhide HZ1)); clear hz hk1 ; cases b) | (refine wpList_store_row rfl 79 _ _ rfl pR #[.int .i64 0, .int .i64 0, .int .i64 0, .int .i64 0, .int .i64 0, .int .i64 0, .int .i64 0, .string ⟨#[]⟩] rfl rfl 79 _ (zoo_varm (unhide HZ2) (List.Mem.tail _ (List.Mem.head _))) Tryz.sizeSt rfl (by simp [Value.oneCell']) ?_))
        · have fin : fil ⟨nm, ls, kd, md⟩ ws = none := by
            rw [unhide HI, unhide HST]
            simp [put1, show num v = none from by simpa using unhide HB]
          have hz3 := zoo_setrow (c' := xcs ⟨0, 0, 0, 0, 0, 0, 0, ⟨#[]⟩⟩) (l1 := [_]) (unhide HZ2)
          have hld := stload rfl (zoo_varm hz3 (List.Mem.tail _ (List.Mem.head _)))
          refine bodyPost_ret (v := .tuple #[.agg (xcs ⟨0, 0, 0, 0, 0, 0, 0, ⟨#[]⟩⟩), .bool false]) ?_ rfl ?_
          · rw [results_cell_tmp Tryz.results52]; simp [asAddr, Result.andThen]; erw [hld]; rfl
          · exact flEnd_mk _ false fin hz3.kp
        · refine ⟨⟨k + 1, { x with to_ := z }, by omega, by go_num, ?_, ?_⟩, by simp [intOf]; omega⟩
          · rw [unhide HI, unhide HST]
            simp [put1, show num v = some z from by simpa using unhide HB, hide]
          · exact HZ2
      by_cases h78 : c = 78
      · subst h78
        go_wp2_with (first | (go_at_call 85; refine (unhide HNU).mono ?_; rintro e w1 ⟨z, b, rfl, hz, hk1⟩; have HZ1 := hide ((unhide HZ).kp0 hk1); have HB := hide hz; have f1 : w1.frozen? ⟨pX, 6, none⟩ = false := frozen_of_block _ (zoo_varm (unhide HZ1) (List.Mem.head _)); have d1 : ∃ y, w1.cell? ⟨pX, 6, none⟩ = some y := ⟨_, cell_of_block (zoo_varm (unhide HZ1) (List.Mem.head _)) rfl⟩; obtain ⟨y, d1⟩ := d1; have HZ2 := hide (zoo_setc (l1 := []) (i := 6) (v := .int .i64 z) (unhide HZ1)); clear hz hk1 ; cases b) | (refine wpList_store_row rfl 79 _ _ rfl pR #[.int .i64 0, .int .i64 0, .int .i64 0, .int .i64 0, .int .i64 0, .int .i64 0, .int .i64 0, .string ⟨#[]⟩] rfl rfl 79 _ (zoo_varm (unhide HZ2) (List.Mem.tail _ (List.Mem.head _))) Tryz.sizeSt rfl (by simp [Value.oneCell']) ?_))
        · have fin : fil ⟨nm, ls, kd, md⟩ ws = none := by
            rw [unhide HI, unhide HST]
            simp [put1, show num v = none from by simpa using unhide HB]
          have hz3 := zoo_setrow (c' := xcs ⟨0, 0, 0, 0, 0, 0, 0, ⟨#[]⟩⟩) (l1 := [_]) (unhide HZ2)
          have hld := stload rfl (zoo_varm hz3 (List.Mem.tail _ (List.Mem.head _)))
          refine bodyPost_ret (v := .tuple #[.agg (xcs ⟨0, 0, 0, 0, 0, 0, 0, ⟨#[]⟩⟩), .bool false]) ?_ rfl ?_
          · rw [results_cell_tmp Tryz.results52]; simp [asAddr, Result.andThen]; erw [hld]; rfl
          · exact flEnd_mk _ false fin hz3.kp
        · refine ⟨⟨k + 1, { x with keep := z }, by omega, by go_num, ?_, ?_⟩, by simp [intOf]; omega⟩
          · rw [unhide HI, unhide HST]
            simp [put1, show num v = some z from by simpa using unhide HB, hide]
          · exact HZ2
      by_cases h66 : c = 66
      · subst h66
        go_wp2_with (first | (go_at_call 86; refine (unhide HMT).mono ?_; rintro e w1 ⟨z, b, rfl, hz, hzl, hk1⟩; have HZ1 := hide ((unhide HZ).kp0 hk1); have HB := hide hz; have f1 : w1.frozen? ⟨pX, 7, none⟩ = false := frozen_of_block _ (zoo_varm (unhide HZ1) (List.Mem.head _)); have d1 : ∃ y, w1.cell? ⟨pX, 7, none⟩ = some y := ⟨_, cell_of_block (zoo_varm (unhide HZ1) (List.Mem.head _)) rfl⟩; obtain ⟨y, d1⟩ := d1; have HZ2 := hide (zoo_setc (l1 := []) (i := 7) (v := .string ⟨z.toArray⟩) (unhide HZ1)); clear hz hk1 hzl; cases b) | (refine wpList_store_row rfl 79 _ _ rfl pR #[.int .i64 0, .int .i64 0, .int .i64 0, .int .i64 0, .int .i64 0, .int .i64 0, .int .i64 0, .string ⟨#[]⟩] rfl rfl 79 _ (zoo_varm (unhide HZ2) (List.Mem.tail _ (List.Mem.head _))) Tryz.sizeSt rfl (by simp [Value.oneCell']) ?_))
        · have fin : fil ⟨nm, ls, kd, md⟩ ws = none := by
            rw [unhide HI, unhide HST]
            simp [put1, show bts v = none from by simpa using unhide HB]
          have hz3 := zoo_setrow (c' := xcs ⟨0, 0, 0, 0, 0, 0, 0, ⟨#[]⟩⟩) (l1 := [_]) (unhide HZ2)
          have hld := stload rfl (zoo_varm hz3 (List.Mem.tail _ (List.Mem.head _)))
          refine bodyPost_ret (v := .tuple #[.agg (xcs ⟨0, 0, 0, 0, 0, 0, 0, ⟨#[]⟩⟩), .bool false]) ?_ rfl ?_
          · rw [results_cell_tmp Tryz.results52]; simp [asAddr, Result.andThen]; erw [hld]; rfl
          · exact flEnd_mk _ false fin hz3.kp
        · refine ⟨⟨k + 1, { x with b := ⟨z.toArray⟩ }, by omega, by go_num, ?_, ?_⟩, by simp [intOf]; omega⟩
          · rw [unhide HI, unhide HST]
            simp [put1, show bts v = some z from by simpa using unhide HB, hide]
          · exact HZ2
      have q83 : ¬ ((c.toNat : Int) = 83) := u8_ne h83 rfl
      have q65 : ¬ ((c.toNat : Int) = 65) := u8_ne h65 rfl
      have q75 : ¬ ((c.toNat : Int) = 75) := u8_ne h75 rfl
      have q84 : ¬ ((c.toNat : Int) = 84) := u8_ne h84 rfl
      have q78 : ¬ ((c.toNat : Int) = 78) := u8_ne h78 rfl
      have q66 : ¬ ((c.toNat : Int) = 66) := u8_ne h66 rfl
      have fin : fil ⟨nm, ls, kd, md⟩ ws = none := by
        rw [unhide HI, unhide HST]
        simp [put1, h83, h65, h75, h84, h78, h66]
      have HF := hide fin
      have hz3 := zoo_setrow (c' := xcs ⟨0, 0, 0, 0, 0, 0, 0, ⟨#[]⟩⟩) (l1 := [_]) (unhide HZ)
      have hld := stload rfl (zoo_varm hz3 (List.Mem.tail _ (List.Mem.head _)))
      have HLD := hide hld
      have HZ3 := hide hz3
      clear fin hld hz3 h83 h65 h75 h84 h78 h66
      go_wp2_with (refine wpList_store_row rfl 79 _ _ rfl pR #[.int .i64 0, .int .i64 0, .int .i64 0, .int .i64 0, .int .i64 0, .int .i64 0, .int .i64 0, .string ⟨#[]⟩] rfl rfl 79 _ (zoo_varm (unhide HZ) (List.Mem.tail _ (List.Mem.head _))) Tryz.sizeSt rfl (by simp [Value.oneCell']) ?_)
      refine bodyPost_ret (v := .tuple #[.agg (xcs ⟨0, 0, 0, 0, 0, 0, 0, ⟨#[]⟩⟩), .bool false]) ?_ rfl ?_
      · rw [results_cell_tmp Tryz.results52]; simp [asAddr, Result.andThen]; erw [unhide HLD]; rfl
      · exact flEnd_mk _ false (unhide HF) (unhide HZ3).kp
    · have i1 : ¬ (k : Int) < (n : Int) := by omega
      have e : k = n := by omega
      have fin : fil ⟨nm, ls, kd, md⟩ ws = some x := by
        rw [unhide HI, e, List.drop_of_length_le (by rw [unhide HL]; omega), fgo_nil]
      have HF := hide fin
      clear fin
      go_wp2_with (first | (refine wpList_load_row rfl 79 _ rfl pX rfl 79 _ (0, 0) _ hX Tryz.underlying79 rfl Tryz.sizeSt ?_) | (refine wpList_store_row rfl 79 _ _ rfl pR (xcs x) rfl rfl 79 _ hR Tryz.sizeSt rfl (xcs_one _) ?_))
      have hz2 := zoo_setrow (c' := xcs x) (l1 := [BoxT pX (xcs x) 79]) (unhide HZ)
      have hld := stload rfl (zoo_varm hz2 (List.Mem.tail _ (List.Mem.head _)))
      refine bodyPost_ret (v := .tuple #[.agg (xcs x), .bool true]) ?_ rfl ?_
      · rw [results_cell_tmp Tryz.results52]; simp [asAddr, Result.andThen, hld]
      · exact flEnd_mk x true (unhide HF) hz2.kp
end
/- The desk's read: the step that a line is, by its contract. -/
section
open Go.RowKit
attribute [local go_sem ↓] Go.wp_at_zero Go.wp_at_succ

theorem Tryz.infoOd : (Tryz.prog.info? 120).map (fun i => (i.zero, i.size, i.bytes)) = some (some (.agg #[.string ByteArray.empty, .string ByteArray.empty, .int .i64 0, .int .i64 0]), 4, 48) := by kernel_rfl
theorem Tryz.sizeOds : (Tryz.prog.info? 121).map (·.size) = some odc.size := by kernel_rfl
theorem odc_part {k : Nat} {o : Od} (h : ods[k]? = some o) : k < 12 ∧ odc.extract (k * 4) (k * 4 + 4) = (odv o).toArray := by
  rcases k with _ | _ | _ | _ | _ | _ | _ | _ | _ | _ | _ | _ | k
  all_goals first | (have e := (Option.some.inj h).symm; subst e; exact ⟨by omega, rfl⟩) | (exact absurd h (by simp [ods]))
theorem run_index_od (w : World) {k : Nat} {o : Od} (h : ods[k]? = some o) :
    (Instr.index 121 (.agg odc) (.int .i64 (k : Int))).run Tryz.prog w = .ok (.agg (odv o).toArray) w := by
  obtain ⟨hk, hp0⟩ := odc_part h
  have hn : (k : Int) < 12 := by omega
  obtain ⟨i0, hi0, hz0, hz1, hz2⟩ := info_parts Tryz.infoOd
  have h1 : (isAgg 120).run Tryz.prog w = .ok true w := by
    unfold isAgg
    rw [Sem.run_bind, run_underlying Tryz.underlying120 w]
    rfl
  have hp : (part 120 odc (k * 4)).run Tryz.prog w = .ok (.agg (odv o).toArray) w := by
    unfold part
    simp [Sem.run_bind, h1, sizeOf, typeInfo, hi0, hz1, hp0]
  simp [Instr.index, run_underlying Tryz.underlying121, asIntOf, hk, sizeOf, typeInfo, hi0, hz1, hp]
theorem ods_ex : ∃ A : Array Value, odc = A ∧ ∀ (k : Nat) (o : Od), ods[k]? = some o → ∀ w, (Instr.index 121 (.agg A) (.int .i64 (k : Int))).run Tryz.prog w = .ok (.agg #[.string ⟨o.name.toArray⟩, .string ⟨o.letters.toArray⟩, .int .i64 o.kind, .int .i64 o.mode]) w :=
  ⟨_, rfl, fun _ _ h w => run_index_od w h⟩
set_option maxHeartbeats 4000000 in
theorem dread (nm : List UInt8) (ws : List (List UInt8)) (n : Nat) (hn : n = ws.length) (hn3 : n ≤ 100) (a : Option Addr) (cap : Nat) (w : World) (hg : Gnd w) (hw : Wrd w a ws) (hws : ∀ v ∈ ws, v.length ≤ 10000) :
    Calls Tryz.prog 29 #[.string ⟨nm.toArray⟩, .slice a n cap] w fun e w' => FlEnd (rdl nm ws) w e w' := by
  have HZ0 := hide ((zoo_nil (Kp.refl [] w)).box #[.int .i64 0, .int .i64 0, .int .i64 0, .int .i64 0, .int .i64 0, .int .i64 0, .int .i64 0, .string ⟨#[]⟩] 79)
  obtain ⟨T, fr, h0⟩ := (gnd_kp hg (unhide HZ0).kp).ord
  have hsz12 := Tryz.sizeOds
  obtain ⟨A, hA, hAk⟩ := ods_ex
  rw [hA] at h0 hsz12
  clear hA
  have HG := hide hg
  have HW := hide hw
  have HN := hide hn
  have HS := hide hws
  have H0 := hide h0
  clear hg hw hn hws h0
  go_enter Tryz.func29, Tryz.ntmps29
  go_wp2_with (refine wpList_load_row rfl 121 _ rfl 0 rfl T A fr _ (unhide H0) Tryz.underlying121 rfl hsz12 ?_)
  generalize (w.alloc (.cells #[.int .i64 0, .int .i64 0, .int .i64 0, .int .i64 0, .int .i64 0, .int .i64 0, .int .i64 0, .string ⟨#[]⟩] 79)) = W at *
  generalize w.heap.size = pR at *
  go_loopw [9] (fun t wr => ∃ k : Nat, k ≤ 12 ∧ t = .int .i64 k ∧ Hid (rdl nm ws = rdg nm ws (ods.drop k)) ∧ Hid (Zoo w wr [BoxT pR #[.int .i64 0, .int .i64 0, .int .i64 0, .int .i64 0, .int .i64 0, .int .i64 0, .int .i64 0, .string ⟨#[]⟩] 79])) (fun t _ => 12 - (intOf t).toNat)
  case atStart => exact ⟨0, by omega, rfl, rfl, HZ0⟩
  case round =>
    obtain ⟨k, hk, rfl, HI, HZ⟩ := hrel
    have hR := zoo_varm (unhide HZ) (List.Mem.head _)
    have hzs := (unhide HZ).kp.size
    by_cases hlt : k < 12
    · have i0 : (0 : Int) ≤ (k : Int) := by omega
      have i1 : (k : Int) < 12 := by omega
      obtain ⟨o, ho⟩ : ∃ o, ods[k]? = some o := ⟨_, List.getElem?_eq_getElem (show k < ods.length from hlt)⟩
      have hix := hAk k o ho
      have hstep : rdl nm ws = if o.name = nm ∧ o.letters.length = ws.length then fil o ws else rdg nm ws (ods.drop (k + 1)) := by
        obtain ⟨hk', e⟩ := List.getElem?_eq_some_iff.1 ho
        rw [unhide HI, List.drop_eq_getElem_cons hk', e, rdg]
      have HST := hide hstep
      clear hstep ho hAk
      obtain ⟨on, ol, ok, om⟩ := o
      dsimp only at hix HST
      have HZ1 := hide (zoo_swap ((unhide HZ).box #[.string ⟨on.toArray⟩, .string ⟨ol.toArray⟩, .int .i64 ok, .int .i64 om] 120))
      by_cases hname : on = nm
      · by_cases hlen : ol.length = n
        · have hsz : (ByteArray.mk ol.toArray).size = n := by rw [size8]; exact hlen
          have hfil : rdl nm ws = fil ⟨on, ol, ok, om⟩ ws := by rw [unhide HST, if_pos ⟨hname, by rw [hlen]; exact unhide HN⟩]
          have HF := hide hfil
          have HFL := hide (dfill ⟨on, ol, ok, om⟩ ws n (unhide HN) hlen hn3 a cap (wr.alloc (.cells #[.string ⟨on.toArray⟩, .string ⟨ol.toArray⟩, .int .i64 ok, .int .i64 om] 120)) (gnd_kp (unhide HG) (unhide HZ1).kp) ((unhide HW).kp0 (unhide HZ1).kp) (unhide HS))
          clear hfil
          subst hname
          go_wp2_with (first | (go_at_call 52; refine (unhide HFL).mono ?_; rintro e w2 ⟨x, b, rfl, hx, hk2⟩; have HZ2 := hide ((unhide HZ1).kp0 hk2); have HX := hide hx; clear hx hk2) | (refine wpList_store_row rfl 79 _ _ rfl pR (xcs x) rfl rfl 79 _ (zoo_varm (unhide HZ2) (List.Mem.head _)) Tryz.sizeSt rfl (xcs_one _) ?_))
          have hz3 := zoo_setrow (c' := xcs x) (l1 := []) (unhide HZ2)
          have hld := stload rfl (zoo_varm hz3 (List.Mem.head _))
          refine bodyPost_ret (v := .tuple #[.agg (xcs x), .bool b]) ?_ rfl ?_
          · rw [results_cell_tmp Tryz.results29]; simp [asAddr, Result.andThen, hld]
          · exact flEnd_mk x b ((unhide HF).trans (unhide HX)) hz3.kp
        · have hsz : ¬ ((ByteArray.mk ol.toArray).size : Int) = (n : Int) := by rw [size8]; omega
          subst hname
          go_wp2_with fail
          refine ⟨⟨k + 1, by omega, by go_num, ?_, (unhide HZ).kp0 ((Kp.refl [] wr).alloc _)⟩, by simp [intOf]; omega⟩
          exact (unhide HST).trans (if_neg (fun h => hlen (by rw [h.2]; exact (unhide HN).symm)))
      · have hne : ¬ (ByteArray.mk on.toArray) = ⟨nm.toArray⟩ := fun e => hname (by simpa using e)
        go_wp2_with fail
        refine ⟨⟨k + 1, by omega, by go_num, ?_, (unhide HZ).kp0 ((Kp.refl [] wr).alloc _)⟩, by simp [intOf]; omega⟩
        exact (unhide HST).trans (if_neg (fun h => hname h.1))
    · have i1 : ¬ (k : Int) < 12 := by omega
      have e : k = 12 := by omega
      have fin : rdl nm ws = none := by rw [unhide HI, e]; rfl
      have HF := hide fin
      have hz3 := zoo_setrow (c' := xcs ⟨0, 0, 0, 0, 0, 0, 0, ⟨#[]⟩⟩) (l1 := []) (unhide HZ)
      have HLD := hide (stload rfl (zoo_varm hz3 (List.Mem.head _)))
      have HZ3 := hide hz3
      clear fin hz3
      go_wp2_with (refine wpList_store_row rfl 79 _ _ rfl pR #[.int .i64 0, .int .i64 0, .int .i64 0, .int .i64 0, .int .i64 0, .int .i64 0, .int .i64 0, .string ⟨#[]⟩] rfl rfl 79 _ hR Tryz.sizeSt rfl (by simp [Value.oneCell']) ?_)
      refine bodyPost_ret (v := .tuple #[.agg (xcs ⟨0, 0, 0, 0, 0, 0, 0, ⟨#[]⟩⟩), .bool false]) ?_ rfl ?_
      · rw [results_cell_tmp Tryz.results29]; simp [asAddr, Result.andThen]; erw [unhide HLD]; rfl
      · exact flEnd_mk _ false (unhide HF) (unhide HZ3).kp
end
/- A hall's goOn: where there is no deed; Put. -/
section
open Go.RowKit
attribute [local go_sem ↓] Go.wp_at_zero Go.wp_at_succ

/-- What goOn, end and Do leave. -/
def GoEnd (w0 : World) (hb vb gb : Nat) (r : List Thing) (h' : HSt) (v : Ev) (e : Ending) (w' : World) : Prop := ∃ tb' st' a cap, e = .returned (.agg #[.int .i64 v.c, .int .i64 v.n, .bool v.t, .string v.s, .slice a v.l.length cap]) ∧ Sts st' h'.seat ∧ Hid (Hall w0 w' hb vb tb' gb h' st' (PsT a cap v.l :: r))
/-- An event in a variable. -/
structure EvF (w : World) (p : Nat) (a b c d e : Value) : Prop where
  c0 : w.cell? ⟨p, 0, none⟩ = some a
  c1 : w.cell? ⟨p, 1, none⟩ = some b
  c2 : w.cell? ⟨p, 2, none⟩ = some c
  c3 : w.cell? ⟨p, 3, none⟩ = some d
  c4 : w.cell? ⟨p, 4, none⟩ = some e
  f0 : w.frozen? ⟨p, 0, none⟩ = false
  f1 : w.frozen? ⟨p, 1, none⟩ = false
  f2 : w.frozen? ⟨p, 2, none⟩ = false
  f3 : w.frozen? ⟨p, 3, none⟩ = false
  f4 : w.frozen? ⟨p, 4, none⟩ = false
theorem evF {w : World} {p : Nat} {a b c d e : Value} {T : TypeId} (h : w.heap[p]? = some (.cells #[a, b, c, d, e] T (0, 0))) : EvF w p a b c d e :=
  ⟨cell_of_block h rfl, cell_of_block h rfl, cell_of_block h rfl, cell_of_block h rfl, cell_of_block h rfl, frozen_of_block _ h, frozen_of_block _ h, frozen_of_block _ h, frozen_of_block _ h, frozen_of_block _ h⟩
section
variable {w0 w : World} {hb vb tb gb : Nat} {h : HSt} {st : Nat → Sd} {r : List Thing}
theorem Hall.ps {tb' : Nat} {h' : HSt} {st' : Nat → Sd} {w' : World} (hz : Hall w0 w' hb vb tb' gb h' st' r) : Hall w0 w' hb vb tb' gb h' st' (PsT none 0 [] :: r) := Zoo.perm (ps_nil hz) (List.perm_middle (l₁ := BoxT hb (hcells vb st') 59 :: VltT vb tb' gb h'.f h'.n h'.cs [] :: seats st')).symm
/-- Behind an event's five cells, written; the variables are let go. -/
theorem Hall.fin {W : World} {p q : Nat} {c xc : Array Value} {T U : TypeId} (hz : Hall w0 W hb vb tb gb h st (BoxT p c T :: BoxT q xc U :: r)) (a b c' d e : Value) : Hall w0 (((((W.setCell ⟨p, 0, none⟩ a).setCell ⟨p, 1, none⟩ b).setCell ⟨p, 2, none⟩ c').setCell ⟨p, 3, none⟩ d).setCell ⟨p, 4, none⟩ e) hb vb tb gb h st r := (((((hz.set0 0 a).set0 1 b).set0 2 c').set0 3 d).set0 4 e).tail.tail
theorem f_not (hs : Sts st h.seat) {x : HStep} (hx : 2 ≤ x.d ∧ x.d ≤ 10 ∧ x.d ≠ 8 ∧ x.d ≠ 9) (hf : ¬ fcode st x.s = 0) : hdo h x = h ∧ hev h x = evc (fcode st x.s) := by
  unfold fcode at hf ⊢
  by_cases hsx : 0 ≤ x.s ∧ x.s < 5
  · rw [if_pos hsx] at hf ⊢
    cases hd : st x.s.toNat with
    | none =>
      have : h.seat x.s.toNat = none := by rw [← hs, hd]; rfl
      exact (HKind.none_ (h := h) (x := x) hx hsx this).eq
    | some y => rw [hd] at hf; exact absurd rfl hf
  · rw [if_neg hsx]
    exact (HKind.range (h := h) (x := x) (by omega) hsx).eq
theorem f_yes {s : Int} (hf : fcode st s = 0) : ∃ (j D : Nat) (d : Dp), s = (j : Int) ∧ j < 5 ∧ st j = some (D, d) := by
  unfold fcode at hf
  split at hf
  · rename_i hsx
    obtain ⟨j, rfl, h5⟩ := seat_in hsx
    rw [Int.toNat_natCast] at hf
    cases hd : st j with
    | none => rw [hd] at hf; exact absurd hf (by simp)
    | some y => exact ⟨j, y.1, y.2, rfl, h5, hd⟩
  · exact absurd hf (by simp)
set_option maxHeartbeats 1000000 in
theorem go_none (x : HStep) (hx : 2 ≤ x.d ∧ x.d ≤ 5) (hf : ¬ fcode st x.s = 0) (hs : Sts st h.seat) (hz : Hall w0 w hb vb tb gb h st r) :
    Calls Tryz.prog 91 #[.pointer (some ⟨hb, 0, none⟩), .agg #[.int .i64 x.d, .int .i64 x.s, .int .i64 x.md, .int .i64 x.at_, .int .i64 x.key, .int .i64 x.to_, .int .i64 x.keep, .string x.b]] w fun e w' => GoEnd w0 hb vb gb r (hdo h x) (hev h x) e w' := by
  have heq := f_not hs (x := x) (by omega) hf
  rw [heq.1, heq.2]
  clear heq
  have HS := hide hs
  have HX := hide (hz.two (xcs x) 79 #[.int .i64 0, .int .i64 0, .bool false, .string ⟨#[]⟩, .slice none 0 0] 102)
  clear hz hs
  generalize hzz : fcode st x.s = z at hf ⊢
  have HZ0 := hide hzz
  have hzb : (z != 0) = true := by simpa using hf
  clear hzz hf
  obtain ⟨xd, xs, xm, xa, xk, xt, xp, xb⟩ := x
  dsimp only [xcs] at *
  go_enter Tryz.func91, Tryz.ntmps91
  go_wp2_with fail
  generalize (w.alloc (.cells #[.int .i64 xd, .int .i64 xs, .int .i64 xm, .int .i64 xa, .int .i64 xk, .int .i64 xt, .int .i64 xp, .string xb] 79)).alloc (.cells #[.int .i64 0, .int .i64 0, .bool false, .string ⟨#[]⟩, .slice none 0 0] 102) = W at HX ⊢
  generalize w.heap.size = q at HX ⊢
  generalize q + 1 = p at HX ⊢
  have hq := (unhide HX).var (List.Mem.tail _ (List.Mem.head _))
  have x1 : W.cell? ⟨q, 1, none⟩ = some (.int .i64 xs) := cell_of_block hq rfl
  clear hq
  refine (h_find xs (unhide HX)).mono ?_
  rintro e w' ⟨rfl, hw'⟩
  subst w'
  rw [unhide HZ0]
  generalize sp (dat st xs) = o
  have HE := hide ((unhide HX).new #[.int .i64 z, .int .i64 0, .bool false, .string ⟨#[]⟩, .slice none 0 0] 102)
  have pl := lt_of_block ((unhide HX).var (List.Mem.head _))
  obtain ⟨e0, e1, e2, e3, e4, g0, g1, g2, g3, g4⟩ := evF ((unhide HX).var (List.Mem.head _))
  go_wp2_with fail
  refine bodyPost_ret (v := .agg #[.int .i64 z, .int .i64 0, .bool false, .string ⟨#[]⟩, .slice none 0 0]) (by simp [results, Tryz.results91, go_sem, e0, e1, e2, e3, e4, pl]) rfl ?_
  exact ⟨tb, st, none, 0, rfl, unhide HS, (((unhide HX).fin _ _ _ _ _).new _ _).tail.ps⟩
end
end
/- A hall's goOn: Put and Drop. -/
section
open Go.RowKit
attribute [local go_sem ↓] Go.wp_at_zero Go.wp_at_succ

section
variable {w0 w : World} {hb vb tb gb : Nat} {h : HSt} {st : Nat → Sd} {r : List Thing}
set_option maxHeartbeats 1000000 in
theorem go_put (x : HStep) (hx : x.d = 3) {j D : Nat} {d : Dp} (hj : x.s = (j : Int)) (h5 : j < 5) (hsd : st j = some (D, d)) (hs : Sts st h.seat) (hz : Hall w0 w hb vb tb gb h st r) (hsz : x.b.size ≤ maxLen) :
    Calls Tryz.prog 91 #[.pointer (some ⟨hb, 0, none⟩), .agg #[.int .i64 x.d, .int .i64 x.s, .int .i64 x.md, .int .i64 x.at_, .int .i64 x.key, .int .i64 x.to_, .int .i64 x.keep, .string x.b]] w fun e w' => GoEnd w0 hb vb gb r (hdo h x) (hev h x) e w' := by
  have HS := hide hs
  have HX := hide (hz.two (xcs x) 79 #[.int .i64 0, .int .i64 0, .bool false, .string ⟨#[]⟩, .slice none 0 0] 102)
  have hjs : x.s.toNat = j := by omega
  have i0 : (0 : Int) ≤ (j : Int) := by omega
  have i5 : (j : Int) < 5 := by omega
  have hsj : h.seat j = some d := by rw [← hs j, hsd]; rfl
  have heq := (HKind.put (h := h) (x := x) d hx ⟨by omega, by omega⟩ (by rw [hjs]; exact hsj)).eq
  rw [heq.1, heq.2]
  clear heq hz hs hsj
  have hda : dat st (j : Int) = some (D, d) := by rw [dat_in h5, hsd]
  have hfc : fcode st (j : Int) = 0 := by unfold fcode; rw [if_pos ⟨i0, i5⟩, Int.toNat_natCast, hsd]; rfl
  obtain ⟨xd, xs, xm, xa, xk, xt, xp, xb⟩ := x
  dsimp only [xcs] at *
  subst hx hj
  go_enter Tryz.func91, Tryz.ntmps91
  go_wp2_with fail
  generalize (w.alloc (.cells #[.int .i64 3, .int .i64 (j : Int), .int .i64 xm, .int .i64 xa, .int .i64 xk, .int .i64 xt, .int .i64 xp, .string xb] 79)).alloc (.cells #[.int .i64 0, .int .i64 0, .bool false, .string ⟨#[]⟩, .slice none 0 0] 102) = W at HX ⊢
  generalize w.heap.size = q at HX ⊢
  generalize q + 1 = p at HX ⊢
  have hq := (unhide HX).var (List.Mem.tail _ (List.Mem.head _))
  have x0 : W.cell? ⟨q, 0, none⟩ = some (.int .i64 3) := cell_of_block hq rfl
  have x1 : W.cell? ⟨q, 1, none⟩ = some (.int .i64 (j : Int)) := cell_of_block hq rfl
  have x4 : W.cell? ⟨q, 4, none⟩ = some (.int .i64 xk) := cell_of_block hq rfl
  have x5 : W.cell? ⟨q, 5, none⟩ = some (.int .i64 xt) := cell_of_block hq rfl
  have x6 : W.cell? ⟨q, 6, none⟩ = some (.int .i64 xp) := cell_of_block hq rfl
  have x7 : W.cell? ⟨q, 7, none⟩ = some (.string xb) := cell_of_block hq rfl
  have ql := lt_of_block hq
  clear hq
  refine (h_find (j : Int) (unhide HX)).mono ?_
  rintro e w' ⟨rfl, hw'⟩
  subst w'
  rw [hda, hfc]
  rw [show sp (some (D, d)) = .pointer (some ⟨D, 0, none⟩) from rfl]
  have HE := hide ((unhide HX).new #[.int .i64 0, .int .i64 0, .bool false, .string ⟨#[]⟩, .slice none 0 0] 102)
  have pl := lt_of_block ((unhide HX).var (List.Mem.head _))
  have hl := (unhide HX).lt
  have vl := (unhide HX).vlt_
  have c0 := (unhide HX).c0
  have v0 := (unhide HX).v0
  obtain ⟨e0, e1, e2, e3, e4, g0, g1, g2, g3, g4⟩ := evF ((unhide HX).var (List.Mem.head _))
  go_wp2_with fail
  generalize W.alloc (.cells #[.int .i64 0, .int .i64 0, .bool false, .string ⟨#[]⟩, .slice none 0 0] 102) = W2 at HE ⊢
  generalize W.heap.size = pe at HE ⊢
  clear e0 e1 e2 e3 e4 g0 g1 g2 g3 g4 x0 x1 x4 x5 x6 x7 ql pl hl vl c0 v0
  refine (h_put xk true xb hsz h5 hsd (unhide HE)).mono ?_
  rintro e w3 ⟨rfl, HY⟩
  have hep := (unhide HY).var (List.Mem.head _)
  have hpp := (unhide HY).var (List.Mem.tail _ (List.Mem.head _))
  obtain ⟨a0, a1, a2, a3, a4, b0, b1, b2, b3, b4⟩ := evF hep
  obtain ⟨e0, e1, e2, e3, e4, g0, g1, g2, g3, g4⟩ := evF hpp
  have pl := lt_of_block hpp
  have el := lt_of_block hep
  clear hep hpp HE
  have hne := (unhide HY).ne2
  go_wp2_with fail
  refine bodyPost_ret (v := .agg #[.int .i64 (dpc d.md xk true xb), .int .i64 0, .bool false, .string ⟨#[]⟩, .slice none 0 0]) (by simp [results, Tryz.results91, go_sem, e0, e1, e2, e3, e4]) rfl ?_
  exact ⟨tb, _, none, 0, rfl, by show Sts _ (upd h.seat ((j : Int).toNat) _); rw [hjs]; exact (unhide HS).put j (some (D, _)), ((((unhide HY).set0 0 _).tail).fin _ _ _ _ _).ps.as rfl rfl rfl⟩
set_option maxHeartbeats 1000000 in
theorem go_drop (x : HStep) (hx : x.d = 4) {j D : Nat} {d : Dp} (hj : x.s = (j : Int)) (h5 : j < 5) (hsd : st j = some (D, d)) (hs : Sts st h.seat) (hz : Hall w0 w hb vb tb gb h st r) (hsz : x.b.size ≤ maxLen) :
    Calls Tryz.prog 91 #[.pointer (some ⟨hb, 0, none⟩), .agg #[.int .i64 x.d, .int .i64 x.s, .int .i64 x.md, .int .i64 x.at_, .int .i64 x.key, .int .i64 x.to_, .int .i64 x.keep, .string x.b]] w fun e w' => GoEnd w0 hb vb gb r (hdo h x) (hev h x) e w' := by
  have HS := hide hs
  have HX := hide (hz.two (xcs x) 79 #[.int .i64 0, .int .i64 0, .bool false, .string ⟨#[]⟩, .slice none 0 0] 102)
  have hjs : x.s.toNat = j := by omega
  have i0 : (0 : Int) ≤ (j : Int) := by omega
  have i5 : (j : Int) < 5 := by omega
  have hsj : h.seat j = some d := by rw [← hs j, hsd]; rfl
  have heq := (HKind.drop (h := h) (x := x) d hx ⟨by omega, by omega⟩ (by rw [hjs]; exact hsj)).eq
  rw [heq.1, heq.2]
  clear heq hz hs hsj
  have hda : dat st (j : Int) = some (D, d) := by rw [dat_in h5, hsd]
  have hfc : fcode st (j : Int) = 0 := by unfold fcode; rw [if_pos ⟨i0, i5⟩, Int.toNat_natCast, hsd]; rfl
  obtain ⟨xd, xs, xm, xa, xk, xt, xp, xb⟩ := x
  dsimp only [xcs] at *
  subst hx hj
  go_enter Tryz.func91, Tryz.ntmps91
  go_wp2_with fail
  generalize (w.alloc (.cells #[.int .i64 4, .int .i64 (j : Int), .int .i64 xm, .int .i64 xa, .int .i64 xk, .int .i64 xt, .int .i64 xp, .string xb] 79)).alloc (.cells #[.int .i64 0, .int .i64 0, .bool false, .string ⟨#[]⟩, .slice none 0 0] 102) = W at HX ⊢
  generalize w.heap.size = q at HX ⊢
  generalize q + 1 = p at HX ⊢
  have hq := (unhide HX).var (List.Mem.tail _ (List.Mem.head _))
  have x0 : W.cell? ⟨q, 0, none⟩ = some (.int .i64 4) := cell_of_block hq rfl
  have x1 : W.cell? ⟨q, 1, none⟩ = some (.int .i64 (j : Int)) := cell_of_block hq rfl
  have x4 : W.cell? ⟨q, 4, none⟩ = some (.int .i64 xk) := cell_of_block hq rfl
  have x5 : W.cell? ⟨q, 5, none⟩ = some (.int .i64 xt) := cell_of_block hq rfl
  have x6 : W.cell? ⟨q, 6, none⟩ = some (.int .i64 xp) := cell_of_block hq rfl
  have x7 : W.cell? ⟨q, 7, none⟩ = some (.string xb) := cell_of_block hq rfl
  have ql := lt_of_block hq
  clear hq
  refine (h_find (j : Int) (unhide HX)).mono ?_
  rintro e w' ⟨rfl, hw'⟩
  subst w'
  rw [hda, hfc]
  rw [show sp (some (D, d)) = .pointer (some ⟨D, 0, none⟩) from rfl]
  have HE := hide ((unhide HX).new #[.int .i64 0, .int .i64 0, .bool false, .string ⟨#[]⟩, .slice none 0 0] 102)
  have pl := lt_of_block ((unhide HX).var (List.Mem.head _))
  have hl := (unhide HX).lt
  have vl := (unhide HX).vlt_
  have c0 := (unhide HX).c0
  have v0 := (unhide HX).v0
  obtain ⟨e0, e1, e2, e3, e4, g0, g1, g2, g3, g4⟩ := evF ((unhide HX).var (List.Mem.head _))
  go_wp2_with fail
  generalize W.alloc (.cells #[.int .i64 0, .int .i64 0, .bool false, .string ⟨#[]⟩, .slice none 0 0] 102) = W2 at HE ⊢
  generalize W.heap.size = pe at HE ⊢
  clear e0 e1 e2 e3 e4 g0 g1 g2 g3 g4 x0 x1 x4 x5 x6 x7 ql pl hl vl c0 v0
  refine (h_put xk false ⟨#[]⟩ (Nat.zero_le _) h5 hsd (unhide HE)).mono ?_
  rintro e w3 ⟨rfl, HY⟩
  have hep := (unhide HY).var (List.Mem.head _)
  have hpp := (unhide HY).var (List.Mem.tail _ (List.Mem.head _))
  obtain ⟨a0, a1, a2, a3, a4, b0, b1, b2, b3, b4⟩ := evF hep
  obtain ⟨e0, e1, e2, e3, e4, g0, g1, g2, g3, g4⟩ := evF hpp
  have pl := lt_of_block hpp
  have el := lt_of_block hep
  clear hep hpp HE
  have hne := (unhide HY).ne2
  go_wp2_with fail
  refine bodyPost_ret (v := .agg #[.int .i64 (dpc d.md xk false ⟨#[]⟩), .int .i64 0, .bool false, .string ⟨#[]⟩, .slice none 0 0]) (by simp [results, Tryz.results91, go_sem, e0, e1, e2, e3, e4]) rfl ?_
  exact ⟨tb, _, none, 0, rfl, by show Sts _ (upd h.seat ((j : Int).toNat) _); rw [hjs]; exact (unhide HS).put j (some (D, _)), ((((unhide HY).set0 0 _).tail).fin _ _ _ _ _).ps.as rfl rfl rfl⟩
end
end
/- A hall's goOn: Get. -/
section
open Go.RowKit
attribute [local go_sem ↓] Go.wp_at_zero Go.wp_at_succ

section
variable {w0 w : World} {hb vb tb gb : Nat} {h : HSt} {st : Nat → Sd} {r : List Thing}
set_option maxHeartbeats 1000000 in
theorem go_get (x : HStep) (hx : x.d = 2) {j D : Nat} {d : Dp} (hj : x.s = (j : Int)) (h5 : j < 5) (hsd : st j = some (D, d)) (hs : Sts st h.seat) (hz : Hall w0 w hb vb tb gb h st r) :
    Calls Tryz.prog 91 #[.pointer (some ⟨hb, 0, none⟩), .agg #[.int .i64 x.d, .int .i64 x.s, .int .i64 x.md, .int .i64 x.at_, .int .i64 x.key, .int .i64 x.to_, .int .i64 x.keep, .string x.b]] w fun e w' => GoEnd w0 hb vb gb r (hdo h x) (hev h x) e w' := by
  have HS := hide hs
  have HX := hide (hz.two (xcs x) 79 #[.int .i64 0, .int .i64 0, .bool false, .string ⟨#[]⟩, .slice none 0 0] 102)
  have hjs : x.s.toNat = j := by omega
  have i0 : (0 : Int) ≤ (j : Int) := by omega
  have i5 : (j : Int) < 5 := by omega
  have hsj : h.seat j = some d := by rw [← hs j, hsd]; rfl
  have heq := (HKind.get (h := h) (x := x) d hx ⟨by omega, by omega⟩ (by rw [hjs]; exact hsj)).eq
  rw [heq.1, heq.2]
  clear heq hz hs hsj
  have hda : dat st (j : Int) = some (D, d) := by rw [dat_in h5, hsd]
  have hfc : fcode st (j : Int) = 0 := by unfold fcode; rw [if_pos ⟨i0, i5⟩, Int.toNat_natCast, hsd]; rfl
  obtain ⟨xd, xs, xm, xa, xk, xt, xp, xb⟩ := x
  dsimp only [xcs] at *
  subst hx hj
  go_enter Tryz.func91, Tryz.ntmps91
  go_wp2_with fail
  generalize (w.alloc (.cells #[.int .i64 2, .int .i64 (j : Int), .int .i64 xm, .int .i64 xa, .int .i64 xk, .int .i64 xt, .int .i64 xp, .string xb] 79)).alloc (.cells #[.int .i64 0, .int .i64 0, .bool false, .string ⟨#[]⟩, .slice none 0 0] 102) = W at HX ⊢
  generalize w.heap.size = q at HX ⊢
  generalize q + 1 = p at HX ⊢
  have hq := (unhide HX).var (List.Mem.tail _ (List.Mem.head _))
  have x0 : W.cell? ⟨q, 0, none⟩ = some (.int .i64 2) := cell_of_block hq rfl
  have x1 : W.cell? ⟨q, 1, none⟩ = some (.int .i64 (j : Int)) := cell_of_block hq rfl
  have x4 : W.cell? ⟨q, 4, none⟩ = some (.int .i64 xk) := cell_of_block hq rfl
  have x5 : W.cell? ⟨q, 5, none⟩ = some (.int .i64 xt) := cell_of_block hq rfl
  have x6 : W.cell? ⟨q, 6, none⟩ = some (.int .i64 xp) := cell_of_block hq rfl
  have x7 : W.cell? ⟨q, 7, none⟩ = some (.string xb) := cell_of_block hq rfl
  have ql := lt_of_block hq
  clear hq
  refine (h_find (j : Int) (unhide HX)).mono ?_
  rintro e w' ⟨rfl, hw'⟩
  subst w'
  rw [hda, hfc]
  rw [show sp (some (D, d)) = .pointer (some ⟨D, 0, none⟩) from rfl]
  have HE := hide ((unhide HX).new #[.int .i64 0, .int .i64 0, .bool false, .string ⟨#[]⟩, .slice none 0 0] 102)
  have pl := lt_of_block ((unhide HX).var (List.Mem.head _))
  have hl := (unhide HX).lt
  have vl := (unhide HX).vlt_
  have c0 := (unhide HX).c0
  have v0 := (unhide HX).v0
  obtain ⟨e0, e1, e2, e3, e4, g0, g1, g2, g3, g4⟩ := evF ((unhide HX).var (List.Mem.head _))
  go_wp2_with fail
  generalize W.alloc (.cells #[.int .i64 0, .int .i64 0, .bool false, .string ⟨#[]⟩, .slice none 0 0] 102) = W2 at HE ⊢
  generalize W.heap.size = pe at HE ⊢
  clear e0 e1 e2 e3 e4 g0 g1 g2 g3 g4 x0 x1 x4 x5 x6 x7 ql pl hl vl c0 v0
  have c0 := (unhide HE).c0
  have v0 := (unhide HE).v0
  have hq := (unhide HE).var (List.Mem.tail _ (List.Mem.tail _ (List.Mem.head _)))
  have x4 : W2.cell? ⟨q, 4, none⟩ = some (.int .i64 xk) := cell_of_block hq rfl
  clear hq
  have HG := hide (fun W' (hk : Kp [] W2 W') => h_get xk h5 hsd ((unhide HE).kp0 hk))
  go_region_with (go_at_call 133; refine (unhide HG _ (Kp.refl [] W2).drew).mono ?_; rintro e w3 ⟨rfl, HY⟩; (have hep := (unhide HY).var (List.Mem.head _)); (obtain ⟨a0, a1, a2, a3, a4, b0, b1, b2, b3, b4⟩ := evF hep); clear hep)
  all_goals
    have hpp := (unhide HY).var (List.Mem.tail _ (List.Mem.head _))
    obtain ⟨e0, e1, e2, e3, e4, g0, g1, g2, g3, g4⟩ := evF hpp
    have pl := lt_of_block hpp
    clear hpp
    have hne := (unhide HY).ne2
    go_wp2_with fail
    refine bodyPost_ret (v := .agg #[.int .i64 (dg h.f h.n d.y d.ws xk).a, .int .i64 0, .bool (dg h.f h.n d.y d.ws xk).t, .string (dg h.f h.n d.y d.ws xk).s, .slice none 0 0]) (by simp [results, Tryz.results91, go_sem, e0, e1, e2, e3, e4]) rfl ?_
    exact ⟨tb, _, none, 0, rfl, by show Sts _ (upd h.seat ((j : Int).toNat) _); rw [hjs]; exact (unhide HS).put j (some (D, _)), ((((((unhide HY).set0 2 _).set0 3 _).set0 0 _).tail).fin _ _ _ _ _).ps.as rfl rfl rfl⟩
end
end
/- A hall's goOn: List. -/
section
open Go.RowKit
attribute [local go_sem ↓] Go.wp_at_zero Go.wp_at_succ

section
variable {w0 w : World} {hb vb tb gb : Nat} {h : HSt} {st : Nat → Sd} {r : List Thing}
set_option maxHeartbeats 1000000 in
theorem go_list (x : HStep) (hx : x.d = 5) {j D : Nat} {d : Dp} (hj : x.s = (j : Int)) (h5 : j < 5) (hsd : st j = some (D, d)) (hs : Sts st h.seat) (hz : Hall w0 w hb vb tb gb h st r) :
    Calls Tryz.prog 91 #[.pointer (some ⟨hb, 0, none⟩), .agg #[.int .i64 x.d, .int .i64 x.s, .int .i64 x.md, .int .i64 x.at_, .int .i64 x.key, .int .i64 x.to_, .int .i64 x.keep, .string x.b]] w fun e w' => GoEnd w0 hb vb gb r (hdo h x) (hev h x) e w' := by
  have HS := hide hs
  have HX := hide (hz.two (xcs x) 79 #[.int .i64 0, .int .i64 0, .bool false, .string ⟨#[]⟩, .slice none 0 0] 102)
  have hjs : x.s.toNat = j := by omega
  have i0 : (0 : Int) ≤ (j : Int) := by omega
  have i5 : (j : Int) < 5 := by omega
  have hsj : h.seat j = some d := by rw [← hs j, hsd]; rfl
  have heq := (HKind.list (h := h) (x := x) d hx ⟨by omega, by omega⟩ (by rw [hjs]; exact hsj)).eq
  rw [heq.1, heq.2]
  clear heq hz hs hsj
  have hda : dat st (j : Int) = some (D, d) := by rw [dat_in h5, hsd]
  have hfc : fcode st (j : Int) = 0 := by unfold fcode; rw [if_pos ⟨i0, i5⟩, Int.toNat_natCast, hsd]; rfl
  obtain ⟨xd, xs, xm, xa, xk, xt, xp, xb⟩ := x
  dsimp only [xcs] at *
  subst hx hj
  go_enter Tryz.func91, Tryz.ntmps91
  go_wp2_with fail
  generalize (w.alloc (.cells #[.int .i64 5, .int .i64 (j : Int), .int .i64 xm, .int .i64 xa, .int .i64 xk, .int .i64 xt, .int .i64 xp, .string xb] 79)).alloc (.cells #[.int .i64 0, .int .i64 0, .bool false, .string ⟨#[]⟩, .slice none 0 0] 102) = W at HX ⊢
  generalize w.heap.size = q at HX ⊢
  generalize q + 1 = p at HX ⊢
  have hq := (unhide HX).var (List.Mem.tail _ (List.Mem.head _))
  have x0 : W.cell? ⟨q, 0, none⟩ = some (.int .i64 5) := cell_of_block hq rfl
  have x1 : W.cell? ⟨q, 1, none⟩ = some (.int .i64 (j : Int)) := cell_of_block hq rfl
  have x4 : W.cell? ⟨q, 4, none⟩ = some (.int .i64 xk) := cell_of_block hq rfl
  have x5 : W.cell? ⟨q, 5, none⟩ = some (.int .i64 xt) := cell_of_block hq rfl
  have x6 : W.cell? ⟨q, 6, none⟩ = some (.int .i64 xp) := cell_of_block hq rfl
  have x7 : W.cell? ⟨q, 7, none⟩ = some (.string xb) := cell_of_block hq rfl
  have ql := lt_of_block hq
  clear hq
  refine (h_find (j : Int) (unhide HX)).mono ?_
  rintro e w' ⟨rfl, hw'⟩
  subst w'
  rw [hda, hfc]
  rw [show sp (some (D, d)) = .pointer (some ⟨D, 0, none⟩) from rfl]
  have HE := hide ((unhide HX).new #[.int .i64 0, .int .i64 0, .bool false, .string ⟨#[]⟩, .slice none 0 0] 102)
  have pl := lt_of_block ((unhide HX).var (List.Mem.head _))
  have hl := (unhide HX).lt
  have vl := (unhide HX).vlt_
  have c0 := (unhide HX).c0
  have v0 := (unhide HX).v0
  obtain ⟨e0, e1, e2, e3, e4, g0, g1, g2, g3, g4⟩ := evF ((unhide HX).var (List.Mem.head _))
  go_wp2_with fail
  generalize W.alloc (.cells #[.int .i64 0, .int .i64 0, .bool false, .string ⟨#[]⟩, .slice none 0 0] 102) = W2 at HE ⊢
  generalize W.heap.size = pe at HE ⊢
  clear e0 e1 e2 e3 e4 g0 g1 g2 g3 g4 x0 x1 x4 x5 x6 x7 ql pl hl vl c0 v0
  have c0 := (unhide HE).c0
  have v0 := (unhide HE).v0
  have hq := (unhide HE).var (List.Mem.tail _ (List.Mem.tail _ (List.Mem.head _)))
  have x4 : W2.cell? ⟨q, 4, none⟩ = some (.int .i64 xk) := cell_of_block hq rfl
  have x5 : W2.cell? ⟨q, 5, none⟩ = some (.int .i64 xt) := cell_of_block hq rfl
  clear hq
  have HG := hide (fun W' (hk : Kp [] W2 W') => h_list xk xt h5 hsd ((unhide HE).kp0 hk))
  go_region_with (go_at_call 135; refine (unhide HG _ (Kp.refl [] W2).drew).mono ?_; rintro e w3 ⟨a, cap, rfl, HY0⟩; (have HY := hide ((unhide HY0).perm (List.perm_middle (l₁ := [_, _, _])).symm)); clear HY0; (have hep := (unhide HY).var (List.Mem.head _)); (obtain ⟨a0, a1, a2, a3, a4, b0, b1, b2, b3, b4⟩ := evF hep); clear hep)
  all_goals
    have hpp := (unhide HY).var (List.Mem.tail _ (List.Mem.head _))
    obtain ⟨e0, e1, e2, e3, e4, g0, g1, g2, g3, g4⟩ := evF hpp
    have pl := lt_of_block hpp
    clear hpp
    have hne := (unhide HY).ne2
    go_wp2_with fail
    refine bodyPost_ret (v := .agg #[.int .i64 (dls h.f h.n d.y d.ws d.rs xk xt).2.1, .int .i64 0, .bool false, .string ⟨#[]⟩, .slice a (dls h.f h.n d.y d.ws d.rs xk xt).1.length cap]) (by simp [results, Tryz.results91, go_sem, e0, e1, e2, e3, e4]) rfl ?_
    exact ⟨tb, _, a, cap, rfl, by show Sts _ (upd h.seat ((j : Int).toNat) _); rw [hjs]; exact (unhide HS).put j (some (D, _)), (((((unhide HY).set0 4 _).set0 0 _).tail).fin _ _ _ _ _).as rfl rfl rfl⟩
end
end
/- A hall's end: where there is no deed; Commit, Abort, Tear. -/
section
open Go.RowKit
attribute [local go_sem ↓] Go.wp_at_zero Go.wp_at_succ

section
variable {w0 w : World} {hb vb tb gb : Nat} {h : HSt} {st : Nat → Sd} {r : List Thing}
set_option maxHeartbeats 1000000 in
theorem end_none (x : HStep) (hx : x.d = 6 ∨ x.d = 7 ∨ x.d = 10) (hf : ¬ fcode st x.s = 0) (hs : Sts st h.seat) (hz : Hall w0 w hb vb tb gb h st r) :
    Calls Tryz.prog 92 #[.pointer (some ⟨hb, 0, none⟩), .agg #[.int .i64 x.d, .int .i64 x.s, .int .i64 x.md, .int .i64 x.at_, .int .i64 x.key, .int .i64 x.to_, .int .i64 x.keep, .string x.b]] w fun e w' => GoEnd w0 hb vb gb r (hdo h x) (hev h x) e w' := by
  have heq := f_not hs (x := x) (by omega) hf
  rw [heq.1, heq.2]
  clear heq
  have HS := hide hs
  have HX := hide (hz.two (xcs x) 79 #[.int .i64 0, .int .i64 0, .bool false, .string ⟨#[]⟩, .slice none 0 0] 102)
  clear hz hs
  generalize hzz : fcode st x.s = z at hf ⊢
  have HZ0 := hide hzz
  have hzb : (z != 0) = true := by simpa using hf
  clear hzz hf
  obtain ⟨xd, xs, xm, xa, xk, xt, xp, xb⟩ := x
  dsimp only [xcs] at *
  go_enter Tryz.func92, Tryz.ntmps92
  go_wp2_with fail
  generalize (w.alloc (.cells #[.int .i64 xd, .int .i64 xs, .int .i64 xm, .int .i64 xa, .int .i64 xk, .int .i64 xt, .int .i64 xp, .string xb] 79)).alloc (.cells #[.int .i64 0, .int .i64 0, .bool false, .string ⟨#[]⟩, .slice none 0 0] 102) = W at HX ⊢
  generalize w.heap.size = q at HX ⊢
  generalize q + 1 = p at HX ⊢
  have hq := (unhide HX).var (List.Mem.tail _ (List.Mem.head _))
  have x1 : W.cell? ⟨q, 1, none⟩ = some (.int .i64 xs) := cell_of_block hq rfl
  clear hq
  refine (h_find xs (unhide HX)).mono ?_
  rintro e w' ⟨rfl, hw'⟩
  subst w'
  rw [unhide HZ0]
  generalize sp (dat st xs) = o
  have HE := hide ((unhide HX).new #[.int .i64 z, .int .i64 0, .bool false, .string ⟨#[]⟩, .slice none 0 0] 102)
  have pl := lt_of_block ((unhide HX).var (List.Mem.head _))
  obtain ⟨e0, e1, e2, e3, e4, g0, g1, g2, g3, g4⟩ := evF ((unhide HX).var (List.Mem.head _))
  go_wp2_with fail
  refine bodyPost_ret (v := .agg #[.int .i64 z, .int .i64 0, .bool false, .string ⟨#[]⟩, .slice none 0 0]) (by simp [results, Tryz.results92, go_sem, e0, e1, e2, e3, e4, pl]) rfl ?_
  exact ⟨tb, st, none, 0, rfl, unhide HS, (((unhide HX).fin _ _ _ _ _).new _ _).tail.ps⟩
set_option maxHeartbeats 1000000 in
theorem end_commit (x : HStep) (hx : x.d = 6) {j D : Nat} {d : Dp} (hj : x.s = (j : Int)) (h5 : j < 5) (hsd : st j = some (D, d)) (hs : Sts st h.seat) (hz : Hall w0 w hb vb tb gb h st r) (hi : HInv h) :
    Calls Tryz.prog 92 #[.pointer (some ⟨hb, 0, none⟩), .agg #[.int .i64 x.d, .int .i64 x.s, .int .i64 x.md, .int .i64 x.at_, .int .i64 x.key, .int .i64 x.to_, .int .i64 x.keep, .string x.b]] w fun e w' => GoEnd w0 hb vb gb r (hdo h x) (hev h x) e w' := by
  have HS := hide hs
  have HX := hide (hz.two (xcs x) 79 #[.int .i64 0, .int .i64 0, .bool false, .string ⟨#[]⟩, .slice none 0 0] 102)
  have hjs : x.s.toNat = j := by omega
  have i0 : (0 : Int) ≤ (j : Int) := by omega
  have i5 : (j : Int) < 5 := by omega
  have hsj : h.seat j = some d := by rw [← hs j, hsd]; rfl
  have heq := (HKind.commit (h := h) (x := x) d hx ⟨by omega, by omega⟩ (by rw [hjs]; exact hsj)).eq
  rw [heq.1, heq.2]
  clear heq hz hs hsj
  have hda : dat st (j : Int) = some (D, d) := by rw [dat_in h5, hsd]
  have hfc : fcode st (j : Int) = 0 := by unfold fcode; rw [if_pos ⟨i0, i5⟩, Int.toNat_natCast, hsd]; rfl
  have HI := hide hi
  have HW := hide (hi.ok j d (by rw [← unhide HS j, hsd]; rfl))
  clear hi
  obtain ⟨xd, xs, xm, xa, xk, xt, xp, xb⟩ := x
  dsimp only [xcs] at *
  subst hx hj
  go_enter Tryz.func92, Tryz.ntmps92
  go_wp2_with fail
  generalize (w.alloc (.cells #[.int .i64 6, .int .i64 (j : Int), .int .i64 xm, .int .i64 xa, .int .i64 xk, .int .i64 xt, .int .i64 xp, .string xb] 79)).alloc (.cells #[.int .i64 0, .int .i64 0, .bool false, .string ⟨#[]⟩, .slice none 0 0] 102) = W at HX ⊢
  generalize w.heap.size = q at HX ⊢
  generalize q + 1 = p at HX ⊢
  have hq := (unhide HX).var (List.Mem.tail _ (List.Mem.head _))
  have x0 : W.cell? ⟨q, 0, none⟩ = some (.int .i64 6) := cell_of_block hq rfl
  have x1 : W.cell? ⟨q, 1, none⟩ = some (.int .i64 (j : Int)) := cell_of_block hq rfl
  have x4 : W.cell? ⟨q, 4, none⟩ = some (.int .i64 xk) := cell_of_block hq rfl
  have x5 : W.cell? ⟨q, 5, none⟩ = some (.int .i64 xt) := cell_of_block hq rfl
  have x6 : W.cell? ⟨q, 6, none⟩ = some (.int .i64 xp) := cell_of_block hq rfl
  have x7 : W.cell? ⟨q, 7, none⟩ = some (.string xb) := cell_of_block hq rfl
  have ql := lt_of_block hq
  clear hq
  refine (h_find (j : Int) (unhide HX)).mono ?_
  rintro e w' ⟨rfl, hw'⟩
  subst w'
  rw [hda, hfc]
  rw [show sp (some (D, d)) = .pointer (some ⟨D, 0, none⟩) from rfl]
  have HE := hide ((unhide HX).new #[.int .i64 0, .int .i64 0, .bool false, .string ⟨#[]⟩, .slice none 0 0] 102)
  have pl := lt_of_block ((unhide HX).var (List.Mem.head _))
  have hl := (unhide HX).lt
  have vl := (unhide HX).vlt_
  have c0 := (unhide HX).c0
  have v0 := (unhide HX).v0
  obtain ⟨e0, e1, e2, e3, e4, g0, g1, g2, g3, g4⟩ := evF ((unhide HX).var (List.Mem.head _))
  go_wp2_with fail
  generalize W.alloc (.cells #[.int .i64 0, .int .i64 0, .bool false, .string ⟨#[]⟩, .slice none 0 0] 102) = W2 at HE ⊢
  generalize W.heap.size = pe at HE ⊢
  clear e0 e1 e2 e3 e4 g0 g1 g2 g3 g4 x0 x1 x4 x5 x6 x7 ql pl hl vl c0 v0
  have c2 := (unhide HE).cs_ h5
  have f2 := (unhide HE).fz (1 + j)
  have hq := (unhide HE).var (List.Mem.tail _ (List.Mem.tail _ (List.Mem.head _)))
  have x1 : W2.cell? ⟨q, 1, none⟩ = some (.int .i64 (j : Int)) := cell_of_block hq rfl
  clear hq
  have HL := hide ((unhide HE).leave h5)
  rw [hsd] at HL
  go_region
  have HL2 := hide (((unhide HL).kp0 (Kp.refl [] _).drew).perm (List.perm_middle (l₁ := [_, _, _])).symm)
  clear HL HE HX c2 f2 x1
  generalize World.drew _ = W3 at HL2 ⊢
  have hq := (unhide HL2).var (List.Mem.tail _ (List.Mem.tail _ (List.Mem.head _)))
  have x0 : W3.cell? ⟨q, 0, none⟩ = some (.int .i64 6) := cell_of_block hq rfl
  have x6 : W3.cell? ⟨q, 6, none⟩ = some (.int .i64 xp) := cell_of_block hq rfl
  clear hq
  have c0 := (unhide HL2).c0
  go_wp2_with fail
  refine (h_commit (unhide HI) (unhide HW) (List.Mem.tail _ (List.Mem.tail _ (List.Mem.tail _ (List.Mem.head _)))) (unhide HL2)).mono ?_
  rintro e w4 ⟨rfl, HY⟩
  clear x0 x6 c0 HL2
  have hep := (unhide HY).var (List.Mem.head _)
  have hpp := (unhide HY).var (List.Mem.tail _ (List.Mem.head _))
  obtain ⟨a0, a1, a2, a3, a4, b0, b1, b2, b3, b4⟩ := evF hep
  obtain ⟨e0, e1, e2, e3, e4, g0, g1, g2, g3, g4⟩ := evF hpp
  clear hep hpp
  have hne := (unhide HY).ne2
  go_wp2_with fail
  refine bodyPost_ret (v := .agg #[.int .i64 (vcode h.f h.cs d.md d.y d.rs d.ws), .int .i64 (vnum h.f h.n h.cs d.md d.y d.rs d.ws), .bool false, .string ⟨#[]⟩, .slice none 0 0]) (by simp [results, Tryz.results92, go_sem, e0, e1, e2, e3, e4]) rfl ?_
  exact ⟨tb, _, none, 0, rfl, by show Sts _ (upd h.seat ((j : Int).toNat) none); rw [hjs]; exact (unhide HS).put j none, (((((unhide HY).set0 1 _).set0 0 _).tail).fin _ _ _ _ _).tail.ps.as rfl rfl rfl⟩
set_option maxHeartbeats 1000000 in
theorem end_abort (x : HStep) (hx : x.d = 7) {j D : Nat} {d : Dp} (hj : x.s = (j : Int)) (h5 : j < 5) (hsd : st j = some (D, d)) (hs : Sts st h.seat) (hz : Hall w0 w hb vb tb gb h st r) (hi : HInv h) :
    Calls Tryz.prog 92 #[.pointer (some ⟨hb, 0, none⟩), .agg #[.int .i64 x.d, .int .i64 x.s, .int .i64 x.md, .int .i64 x.at_, .int .i64 x.key, .int .i64 x.to_, .int .i64 x.keep, .string x.b]] w fun e w' => GoEnd w0 hb vb gb r (hdo h x) (hev h x) e w' := by
  have HS := hide hs
  have HX := hide (hz.two (xcs x) 79 #[.int .i64 0, .int .i64 0, .bool false, .string ⟨#[]⟩, .slice none 0 0] 102)
  have hjs : x.s.toNat = j := by omega
  have i0 : (0 : Int) ≤ (j : Int) := by omega
  have i5 : (j : Int) < 5 := by omega
  have hsj : h.seat j = some d := by rw [← hs j, hsd]; rfl
  have heq := (HKind.abort (h := h) (x := x) d hx ⟨by omega, by omega⟩ (by rw [hjs]; exact hsj)).eq
  rw [heq.1, heq.2]
  clear heq hz hs hsj
  have hda : dat st (j : Int) = some (D, d) := by rw [dat_in h5, hsd]
  have hfc : fcode st (j : Int) = 0 := by unfold fcode; rw [if_pos ⟨i0, i5⟩, Int.toNat_natCast, hsd]; rfl
  have HI := hide hi
  have HW := hide (hi.ok j d (by rw [← unhide HS j, hsd]; rfl))
  clear hi
  obtain ⟨xd, xs, xm, xa, xk, xt, xp, xb⟩ := x
  dsimp only [xcs] at *
  subst hx hj
  go_enter Tryz.func92, Tryz.ntmps92
  go_wp2_with fail
  generalize (w.alloc (.cells #[.int .i64 7, .int .i64 (j : Int), .int .i64 xm, .int .i64 xa, .int .i64 xk, .int .i64 xt, .int .i64 xp, .string xb] 79)).alloc (.cells #[.int .i64 0, .int .i64 0, .bool false, .string ⟨#[]⟩, .slice none 0 0] 102) = W at HX ⊢
  generalize w.heap.size = q at HX ⊢
  generalize q + 1 = p at HX ⊢
  have hq := (unhide HX).var (List.Mem.tail _ (List.Mem.head _))
  have x0 : W.cell? ⟨q, 0, none⟩ = some (.int .i64 7) := cell_of_block hq rfl
  have x1 : W.cell? ⟨q, 1, none⟩ = some (.int .i64 (j : Int)) := cell_of_block hq rfl
  have x4 : W.cell? ⟨q, 4, none⟩ = some (.int .i64 xk) := cell_of_block hq rfl
  have x5 : W.cell? ⟨q, 5, none⟩ = some (.int .i64 xt) := cell_of_block hq rfl
  have x6 : W.cell? ⟨q, 6, none⟩ = some (.int .i64 xp) := cell_of_block hq rfl
  have x7 : W.cell? ⟨q, 7, none⟩ = some (.string xb) := cell_of_block hq rfl
  have ql := lt_of_block hq
  clear hq
  refine (h_find (j : Int) (unhide HX)).mono ?_
  rintro e w' ⟨rfl, hw'⟩
  subst w'
  rw [hda, hfc]
  rw [show sp (some (D, d)) = .pointer (some ⟨D, 0, none⟩) from rfl]
  have HE := hide ((unhide HX).new #[.int .i64 0, .int .i64 0, .bool false, .string ⟨#[]⟩, .slice none 0 0] 102)
  have pl := lt_of_block ((unhide HX).var (List.Mem.head _))
  have hl := (unhide HX).lt
  have vl := (unhide HX).vlt_
  have c0 := (unhide HX).c0
  have v0 := (unhide HX).v0
  obtain ⟨e0, e1, e2, e3, e4, g0, g1, g2, g3, g4⟩ := evF ((unhide HX).var (List.Mem.head _))
  go_wp2_with fail
  generalize W.alloc (.cells #[.int .i64 0, .int .i64 0, .bool false, .string ⟨#[]⟩, .slice none 0 0] 102) = W2 at HE ⊢
  generalize W.heap.size = pe at HE ⊢
  clear e0 e1 e2 e3 e4 g0 g1 g2 g3 g4 x0 x1 x4 x5 x6 x7 ql pl hl vl c0 v0
  have c2 := (unhide HE).cs_ h5
  have f2 := (unhide HE).fz (1 + j)
  have hq := (unhide HE).var (List.Mem.tail _ (List.Mem.tail _ (List.Mem.head _)))
  have x1 : W2.cell? ⟨q, 1, none⟩ = some (.int .i64 (j : Int)) := cell_of_block hq rfl
  clear hq
  have HL := hide ((unhide HE).leave h5)
  rw [hsd] at HL
  go_region
  have HL2 := hide (((unhide HL).kp0 (Kp.refl [] _).drew).perm (List.perm_middle (l₁ := [_, _, _])).symm)
  clear HL HE HX c2 f2 x1
  generalize World.drew _ = W3 at HL2 ⊢
  have hq := (unhide HL2).var (List.Mem.tail _ (List.Mem.tail _ (List.Mem.head _)))
  have x0 : W3.cell? ⟨q, 0, none⟩ = some (.int .i64 7) := cell_of_block hq rfl
  have x6 : W3.cell? ⟨q, 6, none⟩ = some (.int .i64 xp) := cell_of_block hq rfl
  clear hq
  have c0 := (unhide HL2).c0
  have HY := HL2
  have hep := (unhide HY).var (List.Mem.head _)
  have hpp := (unhide HY).var (List.Mem.tail _ (List.Mem.head _))
  obtain ⟨a0, a1, a2, a3, a4, b0, b1, b2, b3, b4⟩ := evF hep
  obtain ⟨e0, e1, e2, e3, e4, g0, g1, g2, g3, g4⟩ := evF hpp
  clear hep hpp
  have hne := (unhide HY).ne2
  go_wp2_with fail
  refine bodyPost_ret (v := .agg #[.int .i64 0, .int .i64 0, .bool false, .string ⟨#[]⟩, .slice none 0 0]) (by simp [results, Tryz.results92, go_sem, e0, e1, e2, e3, e4]) rfl ?_
  exact ⟨tb, _, none, 0, rfl, by show Sts _ (upd h.seat ((j : Int).toNat) none); rw [hjs]; exact (unhide HS).put j none, (((unhide HY).tail).fin _ _ _ _ _).tail.ps.as rfl rfl rfl⟩
end
end
/- A hall's end: Tear. -/
section
open Go.RowKit
attribute [local go_sem ↓] Go.wp_at_zero Go.wp_at_succ

theorem ev_set10 (a b c d e x y : Value) : ((#[a, b, c, d, e] : Array Value).setIfInBounds 1 x).setIfInBounds 0 y = #[y, x, c, d, e] := rfl
section
variable {w0 w : World} {hb vb tb gb : Nat} {h : HSt} {st : Nat → Sd} {r : List Thing}
set_option maxHeartbeats 1000000 in
theorem end_tear (x : HStep) (hx : x.d = 10) {j D : Nat} {d : Dp} (hj : x.s = (j : Int)) (h5 : j < 5) (hsd : st j = some (D, d)) (hs : Sts st h.seat) (hz : Hall w0 w hb vb tb gb h st r) (hi : HInv h) :
    Calls Tryz.prog 92 #[.pointer (some ⟨hb, 0, none⟩), .agg #[.int .i64 x.d, .int .i64 x.s, .int .i64 x.md, .int .i64 x.at_, .int .i64 x.key, .int .i64 x.to_, .int .i64 x.keep, .string x.b]] w fun e w' => GoEnd w0 hb vb gb r (hdo h x) (hev h x) e w' := by
  have HS := hide hs
  have HX := hide (hz.two (xcs x) 79 #[.int .i64 0, .int .i64 0, .bool false, .string ⟨#[]⟩, .slice none 0 0] 102)
  have hjs : x.s.toNat = j := by omega
  have i0 : (0 : Int) ≤ (j : Int) := by omega
  have i5 : (j : Int) < 5 := by omega
  have hsj : h.seat j = some d := by rw [← hs j, hsd]; rfl
  have heq := (HKind.tear (h := h) (x := x) d hx ⟨by omega, by omega⟩ (by rw [hjs]; exact hsj)).eq
  rw [heq.1, heq.2]
  clear heq hz hs hsj
  have hda : dat st (j : Int) = some (D, d) := by rw [dat_in h5, hsd]
  have hfc : fcode st (j : Int) = 0 := by unfold fcode; rw [if_pos ⟨i0, i5⟩, Int.toNat_natCast, hsd]; rfl
  have HI := hide hi
  have HW := hide (hi.ok j d (by rw [← unhide HS j, hsd]; rfl))
  clear hi
  obtain ⟨xd, xs, xm, xa, xk, xt, xp, xb⟩ := x
  dsimp only [xcs] at *
  subst hx hj
  go_enter Tryz.func92, Tryz.ntmps92
  go_wp2_with fail
  generalize (w.alloc (.cells #[.int .i64 10, .int .i64 (j : Int), .int .i64 xm, .int .i64 xa, .int .i64 xk, .int .i64 xt, .int .i64 xp, .string xb] 79)).alloc (.cells #[.int .i64 0, .int .i64 0, .bool false, .string ⟨#[]⟩, .slice none 0 0] 102) = W at HX ⊢
  generalize w.heap.size = q at HX ⊢
  generalize q + 1 = p at HX ⊢
  have hq := (unhide HX).var (List.Mem.tail _ (List.Mem.head _))
  have x0 : W.cell? ⟨q, 0, none⟩ = some (.int .i64 10) := cell_of_block hq rfl
  have x1 : W.cell? ⟨q, 1, none⟩ = some (.int .i64 (j : Int)) := cell_of_block hq rfl
  have x4 : W.cell? ⟨q, 4, none⟩ = some (.int .i64 xk) := cell_of_block hq rfl
  have x5 : W.cell? ⟨q, 5, none⟩ = some (.int .i64 xt) := cell_of_block hq rfl
  have x6 : W.cell? ⟨q, 6, none⟩ = some (.int .i64 xp) := cell_of_block hq rfl
  have x7 : W.cell? ⟨q, 7, none⟩ = some (.string xb) := cell_of_block hq rfl
  have ql := lt_of_block hq
  clear hq
  refine (h_find (j : Int) (unhide HX)).mono ?_
  rintro e w' ⟨rfl, hw'⟩
  subst w'
  rw [hda, hfc]
  rw [show sp (some (D, d)) = .pointer (some ⟨D, 0, none⟩) from rfl]
  have HE := hide ((unhide HX).new #[.int .i64 0, .int .i64 0, .bool false, .string ⟨#[]⟩, .slice none 0 0] 102)
  have pl := lt_of_block ((unhide HX).var (List.Mem.head _))
  have hl := (unhide HX).lt
  have vl := (unhide HX).vlt_
  have c0 := (unhide HX).c0
  have v0 := (unhide HX).v0
  obtain ⟨e0, e1, e2, e3, e4, g0, g1, g2, g3, g4⟩ := evF ((unhide HX).var (List.Mem.head _))
  go_wp2_with fail
  generalize W.alloc (.cells #[.int .i64 0, .int .i64 0, .bool false, .string ⟨#[]⟩, .slice none 0 0] 102) = W2 at HE ⊢
  generalize W.heap.size = pe at HE ⊢
  clear e0 e1 e2 e3 e4 g0 g1 g2 g3 g4 x0 x1 x4 x5 x6 x7 ql pl hl vl c0 v0
  have c2 := (unhide HE).cs_ h5
  have f2 := (unhide HE).fz (1 + j)
  have hq := (unhide HE).var (List.Mem.tail _ (List.Mem.tail _ (List.Mem.head _)))
  have x1 : W2.cell? ⟨q, 1, none⟩ = some (.int .i64 (j : Int)) := cell_of_block hq rfl
  clear hq
  have HL := hide ((unhide HE).leave h5)
  rw [hsd] at HL
  go_region
  have HL2 := hide (((unhide HL).kp0 (Kp.refl [] _).drew).perm (List.perm_middle (l₁ := [_, _, _])).symm)
  clear HL HE HX c2 f2 x1
  generalize World.drew _ = W3 at HL2 ⊢
  have hq := (unhide HL2).var (List.Mem.tail _ (List.Mem.tail _ (List.Mem.head _)))
  have x0 : W3.cell? ⟨q, 0, none⟩ = some (.int .i64 10) := cell_of_block hq rfl
  have x6 : W3.cell? ⟨q, 6, none⟩ = some (.int .i64 xp) := cell_of_block hq rfl
  clear hq
  have c0 := (unhide HL2).c0
  have HG := hide (fun W' (hk : Kp [] W3 W') => h_tear xp (unhide HI) (unhide HW) (List.Mem.tail _ (List.Mem.tail _ (List.Mem.tail _ (List.Mem.head _)))) ((unhide HL2).kp0 hk))
  go_wp2_with fail
  go_region_with (go_at_call 137; refine (unhide HG _ (Kp.refl [] W3).drew).mono ?_; rintro e w4 ⟨rfl, tb', HY⟩; (have hep := (unhide HY).var (List.Mem.head _)); (obtain ⟨a0, a1, a2, a3, a4, b0, b1, b2, b3, b4⟩ := evF hep); clear hep)
  all_goals
    have HY2 := hide (((unhide HY).set0 1 (.int .i64 (tnum h.f h.cs d.md d.y d.rs d.ws xp))).set0 0 (.int .i64 (vcode h.f h.cs d.md d.y d.rs d.ws)))
    clear a0 a1 a2 a3 a4 b0 b1 b2 b3 b4 HY HG x0 x6 c0
    rw [ev_set10] at HY2
    go_wp2_with fail
    refine (h_leaveAll (unhide HY2)).mono ?_
    rintro e w5 ⟨rfl, HY⟩
    clear HY2
    have hep := (unhide HY).var (List.Mem.head _)
    have hpp := (unhide HY).var (List.Mem.tail _ (List.Mem.head _))
    obtain ⟨a0, a1, a2, a3, a4, b0, b1, b2, b3, b4⟩ := evF hep
    obtain ⟨e0, e1, e2, e3, e4, g0, g1, g2, g3, g4⟩ := evF hpp
    clear hep hpp
    have hne := (unhide HY).ne2
    go_wp2_with fail
    refine bodyPost_ret (v := .agg #[.int .i64 (vcode h.f h.cs d.md d.y d.rs d.ws), .int .i64 (tnum h.f h.cs d.md d.y d.rs d.ws xp), .bool false, .string ⟨#[]⟩, .slice none 0 0]) (by simp [results, Tryz.results92, go_sem, e0, e1, e2, e3, e4]) rfl ?_
    exact ⟨tb', _, none, 0, rfl, fun _ => rfl, (((unhide HY).tail).fin _ _ _ _ _).tail.ps.as rfl rfl rfl⟩
end
end
/- A hall's Do: the kinds by themselves. -/
section
open Go.RowKit
attribute [local go_sem ↓] Go.wp_at_zero Go.wp_at_succ

section
variable {w0 w : World} {hb vb tb gb : Nat} {h : HSt} {st : Nat → Sd} {r : List Thing}
set_option maxHeartbeats 1000000 in
theorem do_kind (x : HStep) (hs : Sts st h.seat) (hz : Hall w0 w hb vb tb gb h st r) (hx : x.d < 1 ∨ 10 < x.d) :
    Calls Tryz.prog 53 #[.pointer (some ⟨hb, 0, none⟩), .agg #[.int .i64 x.d, .int .i64 x.s, .int .i64 x.md, .int .i64 x.at_, .int .i64 x.key, .int .i64 x.to_, .int .i64 x.keep, .string x.b]] w fun e w' => GoEnd w0 hb vb gb r (hdo h x) (hev h x) e w' := by
  have heq := (HKind.kind (h := h) (x := x) hx).eq
  rw [heq.1, heq.2]
  clear heq
  have HS := hide hs
  have HX := hide (hz.two (xcs x) 79 #[.int .i64 3, .int .i64 0, .bool false, .string ⟨#[]⟩, .slice none 0 0] 102)
  clear hz hs
  obtain ⟨xd, xs, xm, xa, xk, xt, xp, xb⟩ := x
  dsimp only [xcs] at *
  have k1 : (xd == 1) = false := beq_eq_false_iff_ne.2 (by omega)
  have k2 : (xd == 2) = false := beq_eq_false_iff_ne.2 (by omega)
  have k3 : (xd == 3) = false := beq_eq_false_iff_ne.2 (by omega)
  have k4 : (xd == 4) = false := beq_eq_false_iff_ne.2 (by omega)
  have k5 : (xd == 5) = false := beq_eq_false_iff_ne.2 (by omega)
  have k6 : (xd == 6) = false := beq_eq_false_iff_ne.2 (by omega)
  have k7 : (xd == 7) = false := beq_eq_false_iff_ne.2 (by omega)
  have k8 : (xd == 8) = false := beq_eq_false_iff_ne.2 (by omega)
  have k9 : (xd == 9) = false := beq_eq_false_iff_ne.2 (by omega)
  have k10 : (xd == 10) = false := beq_eq_false_iff_ne.2 (by omega)
  go_enter Tryz.func53, Tryz.ntmps53
  go_wp2_with fail
  refine bodyPost_ret (v := .agg #[.int .i64 3, .int .i64 0, .bool false, .string ⟨#[]⟩, .slice none 0 0]) (by simp [results, Tryz.results53, go_sem]) rfl ?_
  exact ⟨tb, st, none, 0, rfl, unhide HS, (unhide HX).tail.tail.ps⟩
set_option maxHeartbeats 1000000 in
theorem do_crash (x : HStep) (hs : Sts st h.seat) (hz : Hall w0 w hb vb tb gb h st r) (hx : x.d = 9) :
    Calls Tryz.prog 53 #[.pointer (some ⟨hb, 0, none⟩), .agg #[.int .i64 x.d, .int .i64 x.s, .int .i64 x.md, .int .i64 x.at_, .int .i64 x.key, .int .i64 x.to_, .int .i64 x.keep, .string x.b]] w fun e w' => GoEnd w0 hb vb gb r (hdo h x) (hev h x) e w' := by
  have heq := (HKind.crash (h := h) (x := x) hx).eq
  rw [heq.1, heq.2]
  clear heq
  have HS := hide hs
  have HX := hide (hz.two (xcs x) 79 #[.int .i64 0, .int .i64 0, .bool false, .string ⟨#[]⟩, .slice none 0 0] 102)
  have c0 := hz.c0
  have hl := hz.lt
  clear hz hs
  obtain ⟨xd, xs, xm, xa, xk, xt, xp, xb⟩ := x
  dsimp only [xcs] at *
  subst hx
  go_enter Tryz.func53, Tryz.ntmps53
  go_wp2_with fail
  generalize (w.alloc (.cells #[.int .i64 9, .int .i64 xs, .int .i64 xm, .int .i64 xa, .int .i64 xk, .int .i64 xt, .int .i64 xp, .string xb] 79)).alloc (.cells #[.int .i64 0, .int .i64 0, .bool false, .string ⟨#[]⟩, .slice none 0 0] 102) = W at HX ⊢
  generalize w.heap.size = q at HX ⊢
  generalize q + 1 = p at HX ⊢
  refine (h_crash (unhide HX)).mono ?_
  rintro e w1 ⟨rfl, tb', H1⟩
  clear HX
  go_wp2_with fail
  refine (h_leaveAll (unhide H1)).mono ?_
  rintro e w2 ⟨rfl, HY⟩
  clear H1
  obtain ⟨e0, e1, e2, e3, e4, g0, g1, g2, g3, g4⟩ := evF ((unhide HY).var (List.Mem.head _))
  go_wp2_with fail
  refine bodyPost_ret (v := .agg #[.int .i64 0, .int .i64 0, .bool false, .string ⟨#[]⟩, .slice none 0 0]) (by simp [results, Tryz.results53, go_sem, e0, e1, e2, e3, e4]) rfl ?_
  exact ⟨tb', _, none, 0, rfl, fun _ => rfl, ((unhide HY).fin _ _ _ _ _).ps.as rfl rfl rfl⟩
set_option maxHeartbeats 1000000 in
theorem do_begin (x : HStep) (hs : Sts st h.seat) (hz : Hall w0 w hb vb tb gb h st r) (hx : x.d = 1) :
    Calls Tryz.prog 53 #[.pointer (some ⟨hb, 0, none⟩), .agg #[.int .i64 x.d, .int .i64 x.s, .int .i64 x.md, .int .i64 x.at_, .int .i64 x.key, .int .i64 x.to_, .int .i64 x.keep, .string x.b]] w fun e w' => GoEnd w0 hb vb gb r (hdo h x) (hev h x) e w' := by
  have HS := hide hs
  have HX := hide (hz.two (xcs x) 79 #[.int .i64 0, .int .i64 0, .bool false, .string ⟨#[]⟩, .slice none 0 0] 102)
  clear hz hs
  have HB := hide (fun W (hz : Hall w0 W hb vb tb gb h st (BoxT (w.heap.size + 1) #[.int .i64 0, .int .i64 0, .bool false, .string ⟨#[]⟩, .slice none 0 0] 102 :: BoxT w.heap.size (xcs x) 79 :: r)) => h_begin x hx (unhide HS) hz)
  generalize hdo h x = h' at *
  generalize hev h x = v at *
  obtain ⟨xd, xs, xm, xa, xk, xt, xp, xb⟩ := x
  dsimp only [xcs] at *
  subst hx
  go_enter Tryz.func53, Tryz.ntmps53
  go_wp2_with fail
  have HB2 := hide (unhide HB _ (unhide HX))
  clear HB
  generalize (w.alloc (.cells #[.int .i64 1, .int .i64 xs, .int .i64 xm, .int .i64 xa, .int .i64 xk, .int .i64 xt, .int .i64 xp, .string xb] 79)).alloc (.cells #[.int .i64 0, .int .i64 0, .bool false, .string ⟨#[]⟩, .slice none 0 0] 102) = W at HX HB2 ⊢
  generalize w.heap.size = q at HX HB2 ⊢
  generalize q + 1 = p at HX HB2 ⊢
  refine (unhide HB2).mono ?_
  rintro e w1 ⟨st', rfl, hv, hs', HY⟩
  have HS' := hide hs'
  have HV := hide hv
  clear HX HB2 hs' hv
  obtain ⟨e0, e1, e2, e3, e4, g0, g1, g2, g3, g4⟩ := evF ((unhide HY).var (List.Mem.head _))
  go_wp2_with fail
  refine bodyPost_ret (v := .agg #[.int .i64 v.c, .int .i64 0, .bool false, .string ⟨#[]⟩, .slice none 0 0]) (by simp [results, Tryz.results53, go_sem, e0, e1, e2, e3, e4]) rfl ?_
  rw [unhide HV]
  exact ⟨tb, st', none, 0, rfl, unhide HS', ((unhide HY).fin _ _ _ _ _).ps⟩
set_option maxHeartbeats 1000000 in
theorem do_on2 (x : HStep) (hz : Hall w0 w hb vb tb gb h st r) (hx : x.d = 2) (hc : ∀ {w : World} {r : List Thing}, Hall w0 w hb vb tb gb h st r → Calls Tryz.prog 91 #[.pointer (some ⟨hb, 0, none⟩), .agg #[.int .i64 x.d, .int .i64 x.s, .int .i64 x.md, .int .i64 x.at_, .int .i64 x.key, .int .i64 x.to_, .int .i64 x.keep, .string x.b]] w fun e w' => GoEnd w0 hb vb gb r (hdo h x) (hev h x) e w') :
    Calls Tryz.prog 53 #[.pointer (some ⟨hb, 0, none⟩), .agg #[.int .i64 x.d, .int .i64 x.s, .int .i64 x.md, .int .i64 x.at_, .int .i64 x.key, .int .i64 x.to_, .int .i64 x.keep, .string x.b]] w fun e w' => GoEnd w0 hb vb gb r (hdo h x) (hev h x) e w' := by
  have HX := hide (hz.two (xcs x) 79 #[.int .i64 0, .int .i64 0, .bool false, .string ⟨#[]⟩, .slice none 0 0] 102)
  clear hz
  have HB := hide (hc (unhide HX))
  clear hc
  generalize hdo h x = h' at *
  generalize hev h x = v at *
  obtain ⟨xd, xs, xm, xa, xk, xt, xp, xb⟩ := x
  dsimp only [xcs] at *
  subst hx
  go_enter Tryz.func53, Tryz.ntmps53
  go_wp2_with fail
  generalize (w.alloc (.cells #[.int .i64 2, .int .i64 xs, .int .i64 xm, .int .i64 xa, .int .i64 xk, .int .i64 xt, .int .i64 xp, .string xb] 79)).alloc (.cells #[.int .i64 0, .int .i64 0, .bool false, .string ⟨#[]⟩, .slice none 0 0] 102) = W at HX HB ⊢
  generalize w.heap.size = q at HX HB ⊢
  generalize q + 1 = p at HX HB ⊢
  refine (unhide HB).mono ?_
  rintro e w1 ⟨tb', st', a, cap, rfl, hs', HY0⟩
  have HY := hide ((unhide HY0).perm (List.perm_middle (l₁ := [_, _])).symm)
  have HS' := hide hs'
  clear HX HB hs' HY0
  obtain ⟨e0, e1, e2, e3, e4, g0, g1, g2, g3, g4⟩ := evF ((unhide HY).var (List.Mem.head _))
  go_wp2_with fail
  refine bodyPost_ret (v := .agg #[.int .i64 v.c, .int .i64 v.n, .bool v.t, .string v.s, .slice a v.l.length cap]) (by simp [results, Tryz.results53, go_sem, e0, e1, e2, e3, e4]) rfl ?_
  exact ⟨tb', st', a, cap, rfl, unhide HS', (unhide HY).fin _ _ _ _ _⟩
set_option maxHeartbeats 1000000 in
theorem do_on3 (x : HStep) (hz : Hall w0 w hb vb tb gb h st r) (hx : x.d = 3) (hc : ∀ {w : World} {r : List Thing}, Hall w0 w hb vb tb gb h st r → Calls Tryz.prog 91 #[.pointer (some ⟨hb, 0, none⟩), .agg #[.int .i64 x.d, .int .i64 x.s, .int .i64 x.md, .int .i64 x.at_, .int .i64 x.key, .int .i64 x.to_, .int .i64 x.keep, .string x.b]] w fun e w' => GoEnd w0 hb vb gb r (hdo h x) (hev h x) e w') :
    Calls Tryz.prog 53 #[.pointer (some ⟨hb, 0, none⟩), .agg #[.int .i64 x.d, .int .i64 x.s, .int .i64 x.md, .int .i64 x.at_, .int .i64 x.key, .int .i64 x.to_, .int .i64 x.keep, .string x.b]] w fun e w' => GoEnd w0 hb vb gb r (hdo h x) (hev h x) e w' := by
  have HX := hide (hz.two (xcs x) 79 #[.int .i64 0, .int .i64 0, .bool false, .string ⟨#[]⟩, .slice none 0 0] 102)
  clear hz
  have HB := hide (hc (unhide HX))
  clear hc
  generalize hdo h x = h' at *
  generalize hev h x = v at *
  obtain ⟨xd, xs, xm, xa, xk, xt, xp, xb⟩ := x
  dsimp only [xcs] at *
  subst hx
  go_enter Tryz.func53, Tryz.ntmps53
  go_wp2_with fail
  generalize (w.alloc (.cells #[.int .i64 3, .int .i64 xs, .int .i64 xm, .int .i64 xa, .int .i64 xk, .int .i64 xt, .int .i64 xp, .string xb] 79)).alloc (.cells #[.int .i64 0, .int .i64 0, .bool false, .string ⟨#[]⟩, .slice none 0 0] 102) = W at HX HB ⊢
  generalize w.heap.size = q at HX HB ⊢
  generalize q + 1 = p at HX HB ⊢
  refine (unhide HB).mono ?_
  rintro e w1 ⟨tb', st', a, cap, rfl, hs', HY0⟩
  have HY := hide ((unhide HY0).perm (List.perm_middle (l₁ := [_, _])).symm)
  have HS' := hide hs'
  clear HX HB hs' HY0
  obtain ⟨e0, e1, e2, e3, e4, g0, g1, g2, g3, g4⟩ := evF ((unhide HY).var (List.Mem.head _))
  go_wp2_with fail
  refine bodyPost_ret (v := .agg #[.int .i64 v.c, .int .i64 v.n, .bool v.t, .string v.s, .slice a v.l.length cap]) (by simp [results, Tryz.results53, go_sem, e0, e1, e2, e3, e4]) rfl ?_
  exact ⟨tb', st', a, cap, rfl, unhide HS', (unhide HY).fin _ _ _ _ _⟩
set_option maxHeartbeats 1000000 in
theorem do_on4 (x : HStep) (hz : Hall w0 w hb vb tb gb h st r) (hx : x.d = 4) (hc : ∀ {w : World} {r : List Thing}, Hall w0 w hb vb tb gb h st r → Calls Tryz.prog 91 #[.pointer (some ⟨hb, 0, none⟩), .agg #[.int .i64 x.d, .int .i64 x.s, .int .i64 x.md, .int .i64 x.at_, .int .i64 x.key, .int .i64 x.to_, .int .i64 x.keep, .string x.b]] w fun e w' => GoEnd w0 hb vb gb r (hdo h x) (hev h x) e w') :
    Calls Tryz.prog 53 #[.pointer (some ⟨hb, 0, none⟩), .agg #[.int .i64 x.d, .int .i64 x.s, .int .i64 x.md, .int .i64 x.at_, .int .i64 x.key, .int .i64 x.to_, .int .i64 x.keep, .string x.b]] w fun e w' => GoEnd w0 hb vb gb r (hdo h x) (hev h x) e w' := by
  have HX := hide (hz.two (xcs x) 79 #[.int .i64 0, .int .i64 0, .bool false, .string ⟨#[]⟩, .slice none 0 0] 102)
  clear hz
  have HB := hide (hc (unhide HX))
  clear hc
  generalize hdo h x = h' at *
  generalize hev h x = v at *
  obtain ⟨xd, xs, xm, xa, xk, xt, xp, xb⟩ := x
  dsimp only [xcs] at *
  subst hx
  go_enter Tryz.func53, Tryz.ntmps53
  go_wp2_with fail
  generalize (w.alloc (.cells #[.int .i64 4, .int .i64 xs, .int .i64 xm, .int .i64 xa, .int .i64 xk, .int .i64 xt, .int .i64 xp, .string xb] 79)).alloc (.cells #[.int .i64 0, .int .i64 0, .bool false, .string ⟨#[]⟩, .slice none 0 0] 102) = W at HX HB ⊢
  generalize w.heap.size = q at HX HB ⊢
  generalize q + 1 = p at HX HB ⊢
  refine (unhide HB).mono ?_
  rintro e w1 ⟨tb', st', a, cap, rfl, hs', HY0⟩
  have HY := hide ((unhide HY0).perm (List.perm_middle (l₁ := [_, _])).symm)
  have HS' := hide hs'
  clear HX HB hs' HY0
  obtain ⟨e0, e1, e2, e3, e4, g0, g1, g2, g3, g4⟩ := evF ((unhide HY).var (List.Mem.head _))
  go_wp2_with fail
  refine bodyPost_ret (v := .agg #[.int .i64 v.c, .int .i64 v.n, .bool v.t, .string v.s, .slice a v.l.length cap]) (by simp [results, Tryz.results53, go_sem, e0, e1, e2, e3, e4]) rfl ?_
  exact ⟨tb', st', a, cap, rfl, unhide HS', (unhide HY).fin _ _ _ _ _⟩
set_option maxHeartbeats 1000000 in
theorem do_on5 (x : HStep) (hz : Hall w0 w hb vb tb gb h st r) (hx : x.d = 5) (hc : ∀ {w : World} {r : List Thing}, Hall w0 w hb vb tb gb h st r → Calls Tryz.prog 91 #[.pointer (some ⟨hb, 0, none⟩), .agg #[.int .i64 x.d, .int .i64 x.s, .int .i64 x.md, .int .i64 x.at_, .int .i64 x.key, .int .i64 x.to_, .int .i64 x.keep, .string x.b]] w fun e w' => GoEnd w0 hb vb gb r (hdo h x) (hev h x) e w') :
    Calls Tryz.prog 53 #[.pointer (some ⟨hb, 0, none⟩), .agg #[.int .i64 x.d, .int .i64 x.s, .int .i64 x.md, .int .i64 x.at_, .int .i64 x.key, .int .i64 x.to_, .int .i64 x.keep, .string x.b]] w fun e w' => GoEnd w0 hb vb gb r (hdo h x) (hev h x) e w' := by
  have HX := hide (hz.two (xcs x) 79 #[.int .i64 0, .int .i64 0, .bool false, .string ⟨#[]⟩, .slice none 0 0] 102)
  clear hz
  have HB := hide (hc (unhide HX))
  clear hc
  generalize hdo h x = h' at *
  generalize hev h x = v at *
  obtain ⟨xd, xs, xm, xa, xk, xt, xp, xb⟩ := x
  dsimp only [xcs] at *
  subst hx
  go_enter Tryz.func53, Tryz.ntmps53
  go_wp2_with fail
  generalize (w.alloc (.cells #[.int .i64 5, .int .i64 xs, .int .i64 xm, .int .i64 xa, .int .i64 xk, .int .i64 xt, .int .i64 xp, .string xb] 79)).alloc (.cells #[.int .i64 0, .int .i64 0, .bool false, .string ⟨#[]⟩, .slice none 0 0] 102) = W at HX HB ⊢
  generalize w.heap.size = q at HX HB ⊢
  generalize q + 1 = p at HX HB ⊢
  refine (unhide HB).mono ?_
  rintro e w1 ⟨tb', st', a, cap, rfl, hs', HY0⟩
  have HY := hide ((unhide HY0).perm (List.perm_middle (l₁ := [_, _])).symm)
  have HS' := hide hs'
  clear HX HB hs' HY0
  obtain ⟨e0, e1, e2, e3, e4, g0, g1, g2, g3, g4⟩ := evF ((unhide HY).var (List.Mem.head _))
  go_wp2_with fail
  refine bodyPost_ret (v := .agg #[.int .i64 v.c, .int .i64 v.n, .bool v.t, .string v.s, .slice a v.l.length cap]) (by simp [results, Tryz.results53, go_sem, e0, e1, e2, e3, e4]) rfl ?_
  exact ⟨tb', st', a, cap, rfl, unhide HS', (unhide HY).fin _ _ _ _ _⟩
set_option maxHeartbeats 1000000 in
theorem do_end6 (x : HStep) (hz : Hall w0 w hb vb tb gb h st r) (hx : x.d = 6) (hc : ∀ {w : World} {r : List Thing}, Hall w0 w hb vb tb gb h st r → Calls Tryz.prog 92 #[.pointer (some ⟨hb, 0, none⟩), .agg #[.int .i64 x.d, .int .i64 x.s, .int .i64 x.md, .int .i64 x.at_, .int .i64 x.key, .int .i64 x.to_, .int .i64 x.keep, .string x.b]] w fun e w' => GoEnd w0 hb vb gb r (hdo h x) (hev h x) e w') :
    Calls Tryz.prog 53 #[.pointer (some ⟨hb, 0, none⟩), .agg #[.int .i64 x.d, .int .i64 x.s, .int .i64 x.md, .int .i64 x.at_, .int .i64 x.key, .int .i64 x.to_, .int .i64 x.keep, .string x.b]] w fun e w' => GoEnd w0 hb vb gb r (hdo h x) (hev h x) e w' := by
  have HX := hide (hz.two (xcs x) 79 #[.int .i64 0, .int .i64 0, .bool false, .string ⟨#[]⟩, .slice none 0 0] 102)
  clear hz
  have HB := hide (hc (unhide HX))
  clear hc
  generalize hdo h x = h' at *
  generalize hev h x = v at *
  obtain ⟨xd, xs, xm, xa, xk, xt, xp, xb⟩ := x
  dsimp only [xcs] at *
  subst hx
  go_enter Tryz.func53, Tryz.ntmps53
  go_wp2_with fail
  generalize (w.alloc (.cells #[.int .i64 6, .int .i64 xs, .int .i64 xm, .int .i64 xa, .int .i64 xk, .int .i64 xt, .int .i64 xp, .string xb] 79)).alloc (.cells #[.int .i64 0, .int .i64 0, .bool false, .string ⟨#[]⟩, .slice none 0 0] 102) = W at HX HB ⊢
  generalize w.heap.size = q at HX HB ⊢
  generalize q + 1 = p at HX HB ⊢
  refine (unhide HB).mono ?_
  rintro e w1 ⟨tb', st', a, cap, rfl, hs', HY0⟩
  have HY := hide ((unhide HY0).perm (List.perm_middle (l₁ := [_, _])).symm)
  have HS' := hide hs'
  clear HX HB hs' HY0
  obtain ⟨e0, e1, e2, e3, e4, g0, g1, g2, g3, g4⟩ := evF ((unhide HY).var (List.Mem.head _))
  go_wp2_with fail
  refine bodyPost_ret (v := .agg #[.int .i64 v.c, .int .i64 v.n, .bool v.t, .string v.s, .slice a v.l.length cap]) (by simp [results, Tryz.results53, go_sem, e0, e1, e2, e3, e4]) rfl ?_
  exact ⟨tb', st', a, cap, rfl, unhide HS', (unhide HY).fin _ _ _ _ _⟩
set_option maxHeartbeats 1000000 in
theorem do_end7 (x : HStep) (hz : Hall w0 w hb vb tb gb h st r) (hx : x.d = 7) (hc : ∀ {w : World} {r : List Thing}, Hall w0 w hb vb tb gb h st r → Calls Tryz.prog 92 #[.pointer (some ⟨hb, 0, none⟩), .agg #[.int .i64 x.d, .int .i64 x.s, .int .i64 x.md, .int .i64 x.at_, .int .i64 x.key, .int .i64 x.to_, .int .i64 x.keep, .string x.b]] w fun e w' => GoEnd w0 hb vb gb r (hdo h x) (hev h x) e w') :
    Calls Tryz.prog 53 #[.pointer (some ⟨hb, 0, none⟩), .agg #[.int .i64 x.d, .int .i64 x.s, .int .i64 x.md, .int .i64 x.at_, .int .i64 x.key, .int .i64 x.to_, .int .i64 x.keep, .string x.b]] w fun e w' => GoEnd w0 hb vb gb r (hdo h x) (hev h x) e w' := by
  have HX := hide (hz.two (xcs x) 79 #[.int .i64 0, .int .i64 0, .bool false, .string ⟨#[]⟩, .slice none 0 0] 102)
  clear hz
  have HB := hide (hc (unhide HX))
  clear hc
  generalize hdo h x = h' at *
  generalize hev h x = v at *
  obtain ⟨xd, xs, xm, xa, xk, xt, xp, xb⟩ := x
  dsimp only [xcs] at *
  subst hx
  go_enter Tryz.func53, Tryz.ntmps53
  go_wp2_with fail
  generalize (w.alloc (.cells #[.int .i64 7, .int .i64 xs, .int .i64 xm, .int .i64 xa, .int .i64 xk, .int .i64 xt, .int .i64 xp, .string xb] 79)).alloc (.cells #[.int .i64 0, .int .i64 0, .bool false, .string ⟨#[]⟩, .slice none 0 0] 102) = W at HX HB ⊢
  generalize w.heap.size = q at HX HB ⊢
  generalize q + 1 = p at HX HB ⊢
  refine (unhide HB).mono ?_
  rintro e w1 ⟨tb', st', a, cap, rfl, hs', HY0⟩
  have HY := hide ((unhide HY0).perm (List.perm_middle (l₁ := [_, _])).symm)
  have HS' := hide hs'
  clear HX HB hs' HY0
  obtain ⟨e0, e1, e2, e3, e4, g0, g1, g2, g3, g4⟩ := evF ((unhide HY).var (List.Mem.head _))
  go_wp2_with fail
  refine bodyPost_ret (v := .agg #[.int .i64 v.c, .int .i64 v.n, .bool v.t, .string v.s, .slice a v.l.length cap]) (by simp [results, Tryz.results53, go_sem, e0, e1, e2, e3, e4]) rfl ?_
  exact ⟨tb', st', a, cap, rfl, unhide HS', (unhide HY).fin _ _ _ _ _⟩
set_option maxHeartbeats 1000000 in
theorem do_end10 (x : HStep) (hz : Hall w0 w hb vb tb gb h st r) (hx : x.d = 10) (hc : ∀ {w : World} {r : List Thing}, Hall w0 w hb vb tb gb h st r → Calls Tryz.prog 92 #[.pointer (some ⟨hb, 0, none⟩), .agg #[.int .i64 x.d, .int .i64 x.s, .int .i64 x.md, .int .i64 x.at_, .int .i64 x.key, .int .i64 x.to_, .int .i64 x.keep, .string x.b]] w fun e w' => GoEnd w0 hb vb gb r (hdo h x) (hev h x) e w') :
    Calls Tryz.prog 53 #[.pointer (some ⟨hb, 0, none⟩), .agg #[.int .i64 x.d, .int .i64 x.s, .int .i64 x.md, .int .i64 x.at_, .int .i64 x.key, .int .i64 x.to_, .int .i64 x.keep, .string x.b]] w fun e w' => GoEnd w0 hb vb gb r (hdo h x) (hev h x) e w' := by
  have HX := hide (hz.two (xcs x) 79 #[.int .i64 0, .int .i64 0, .bool false, .string ⟨#[]⟩, .slice none 0 0] 102)
  clear hz
  have HB := hide (hc (unhide HX))
  clear hc
  generalize hdo h x = h' at *
  generalize hev h x = v at *
  obtain ⟨xd, xs, xm, xa, xk, xt, xp, xb⟩ := x
  dsimp only [xcs] at *
  subst hx
  go_enter Tryz.func53, Tryz.ntmps53
  go_wp2_with fail
  generalize (w.alloc (.cells #[.int .i64 10, .int .i64 xs, .int .i64 xm, .int .i64 xa, .int .i64 xk, .int .i64 xt, .int .i64 xp, .string xb] 79)).alloc (.cells #[.int .i64 0, .int .i64 0, .bool false, .string ⟨#[]⟩, .slice none 0 0] 102) = W at HX HB ⊢
  generalize w.heap.size = q at HX HB ⊢
  generalize q + 1 = p at HX HB ⊢
  refine (unhide HB).mono ?_
  rintro e w1 ⟨tb', st', a, cap, rfl, hs', HY0⟩
  have HY := hide ((unhide HY0).perm (List.perm_middle (l₁ := [_, _])).symm)
  have HS' := hide hs'
  clear HX HB hs' HY0
  obtain ⟨e0, e1, e2, e3, e4, g0, g1, g2, g3, g4⟩ := evF ((unhide HY).var (List.Mem.head _))
  go_wp2_with fail
  refine bodyPost_ret (v := .agg #[.int .i64 v.c, .int .i64 v.n, .bool v.t, .string v.s, .slice a v.l.length cap]) (by simp [results, Tryz.results53, go_sem, e0, e1, e2, e3, e4]) rfl ?_
  exact ⟨tb', st', a, cap, rfl, unhide HS', (unhide HY).fin _ _ _ _ _⟩
end
end
end Go.Proofs.YtldkeaeohceckadGreatDoor
