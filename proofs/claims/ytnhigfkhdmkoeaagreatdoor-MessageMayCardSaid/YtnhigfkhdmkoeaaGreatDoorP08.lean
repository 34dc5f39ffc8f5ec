/-
  DERIVED: THE SHELF's CONTRACTS AT THIS DUMP, IN PLAIN WORDS (tools/lay-plain.mjs out of 'TryzShelf.lean', which tools/lay-shelf.mjs wrote): THE SAME DECLARATIONS UNDER THE SAME NAMES: 'import', 'namespace', 'open', 'def', 'theorem' AND NOTHING ELSE: no command of the shelf's: FOR A HAND-IN. Each laying: the table of numbers ('.._ren') and one theorem, a field a fact of the dump's own or the kernel's comparison; each contract: ONE APPLICATION.
  Texts parted at commas, as plain lists of bytes: the parts, byte by byte; joined again; no comma in a part.
  Rows of texts: a call's own, appended to one by one, and written over.
  strings.Split at one byte: no cell is asked for.
  Texts parted at commas: the document's Split, byte by byte, and the program's, by the library's.
  The program's fields: may be read; bytes among others; numbers.
  The program's fields: numbers of digits.
  The program's fields: pieces of a text; what stands ahead of a point, and behind it.
  The program's fields: digits ahead of a point, and behind it.
  The program's fields: numbers, hex digits.
-/
import Derived.Shelf.Strings.Builder1
import Derived.Shelf.Strings.Builder2
import Derived.Shelf.Small.Strs
import Derived.Shelf.Small.Wraps
import Derived.Shelf.Strings.BuilderF
import Derived.Shelf.Strings.Search1
import Derived.Shelf.Strings.Search2
import Derived.Shelf.Strings.Search3
import Derived.Shelf.Strings.Cut
import Derived.Shelf.Strings.Count
import Derived.Shelf.LaysM
import Derived.Shelf.Strings.Shaped
import Derived.Shelf.Strings.Prefix
import Derived.Shelf.Strings.Split
import Derived.Shelf.Strings.SplitShaped
import Derived.Shelf.Bits.Mul64
import Derived.Shelf.Strings.Repeat
import Derived.Shelf.Unicode.DecodeSlow
import Derived.Test.YtnhigfkhdmkoeaaGreatDoorProg
import Derived.Test.YtnhigfkhdmkoeaaGreatDoorP02
import Derived.Test.YtnhigfkhdmkoeaaGreatDoorP07
import Derived.Lib.SplitLaws
import Derived.Lib.Join
import Derived.LoopTactic
import Derived.StillTailTactics
import Derived.Shelf.Abstract
import Derived.Deep.LoopGhost
import Derived.Deep.QuietTactic
import Derived.BigQuiet
import Derived.KernelRfl
import Derived.Lib.CutLaws

namespace Go.Proofs
open Go.Shelf
def Tryz.lays170_ren : Go.Shelf.Ren := ⟨fun | 170 => 162 | n => n, fun | 70 => 193 | 3 => 3 | 0 => 0 | 72 => 195 | 37 => 22 | 5 => 5 | n => n, fun | n => n⟩
theorem Tryz.lays170 : Go.Proofs.Lays.n170 Tryz.prog Tryz.lays170_ren := {
  mixed := by kernel_rfl
  f170 := Tryz.func162.trans (congrArg some (by kernel_rfl))
  t0 := Tryz.underlying0
  a0 := Tryz.isAgg0
  z0 := Tryz.sizeOf0
  v0 := Tryz.zeroValue0
  t3 := Tryz.underlying3
  a3 := Tryz.isAgg3
  z3 := Tryz.sizeOf3
  v3 := Tryz.zeroValue3
  t37 := Tryz.underlying22
  a37 := Tryz.isAgg22
  z37 := Tryz.sizeOf22
  v37 := Tryz.zeroValue22
  t70 := Tryz.underlying193
  a70 := Tryz.isAgg193
  z70 := Tryz.sizeOf193
  v70 := Tryz.zeroValue193
  t72 := Tryz.underlying195
  a72 := Tryz.isAgg195
  z72 := Tryz.sizeOf195
  v72 := Tryz.zeroValue195 }
open Go.RowKit in
/-- (*strings.Builder).Len: "Len returns the number of accumulated bytes; b.Len() == len(b.String()).": the world is as it was. (LAID: no walk: one application.) -/
theorem Tryz.Builder_Len (B b : Nat) (bs : List Value) (w : World) (h : Lib.IsBuilder 195 5 B b bs w) :
    Calls Tryz.prog 162 #[.pointer (some ⟨b, 0, none⟩)] w fun e w' => e = .returned (.int .i64 bs.length) ∧ w' = w := Any.Builder_Len Tryz.lays170 B b bs w h
def Tryz.lays169_ren : Go.Shelf.Ren := ⟨fun | 169 => 163 | n => n, fun | 70 => 193 | 9 => 9 | 0 => 0 | 72 => 195 | 37 => 22 | 127 => 207 | 3 => 3 | 5 => 5 | n => n, fun | n => n⟩
theorem Tryz.lays169 : Go.Proofs.Lays.n169 Tryz.prog Tryz.lays169_ren := {
  mixed := by kernel_rfl
  f169 := Tryz.func163.trans (congrArg some (by kernel_rfl))
  t0 := Tryz.underlying0
  a0 := Tryz.isAgg0
  z0 := Tryz.sizeOf0
  v0 := Tryz.zeroValue0
  t3 := Tryz.underlying3
  a3 := Tryz.isAgg3
  z3 := Tryz.sizeOf3
  v3 := Tryz.zeroValue3
  t9 := Tryz.underlying9
  a9 := Tryz.isAgg9
  z9 := Tryz.sizeOf9
  v9 := Tryz.zeroValue9
  t37 := Tryz.underlying22
  a37 := Tryz.isAgg22
  z37 := Tryz.sizeOf22
  v37 := Tryz.zeroValue22
  t70 := Tryz.underlying193
  a70 := Tryz.isAgg193
  z70 := Tryz.sizeOf193
  v70 := Tryz.zeroValue193
  t72 := Tryz.underlying195
  a72 := Tryz.isAgg195
  z72 := Tryz.sizeOf195
  v72 := Tryz.zeroValue195
  t127 := Tryz.underlying207
  a127 := Tryz.isAgg207
  z127 := Tryz.sizeOf207
  v127 := Tryz.zeroValue207 }
theorem Tryz.Builder_Extra_169 : Builder.Extra Tryz.prog Tryz.lays169_ren := {
  sizeBuilder := by kernel_rfl
  liesBuilder := by kernel_rfl
  t5 := Tryz.underlying5
  a5 := Tryz.isAgg5
  z5 := Tryz.sizeOf5
  v5 := Tryz.zeroValue5
  infoByte := by kernel_rfl
  cellsByte := by kernel_rfl
  sizeByte := by kernel_rfl
  neB5 := by decide }
open Go.RowKit in
/-- (*strings.Builder).String: "String returns the accumulated string.": OF A BUILDER THAT HOLDS AT LEAST ONE BYTE. ✋ THE MODEL FREEZES THOSE BYTES IN THE BUFFER (unsafe.String): a later write INTO them ends the model's run without an answer; a later append BEHIND them goes on. The statement's order of evaluation is drawn: one draw. (LAID: no walk: one application.) -/
theorem Tryz.Builder_String (B b : Nat) (l : List UInt8) (w : World) (h : Lib.IsBuilder 195 5 B b (Lib.byteCells l) w) (h0 : l ≠ []) :
    Calls Tryz.prog 163 #[.pointer (some ⟨b, 0, none⟩)] w fun e w' => e = .returned (.string ⟨l.toArray⟩) ∧ Below B w w' := Any.Builder_String Tryz.lays169 Tryz.Builder_Extra_169 B b l w h h0
open Go.RowKit in
/-- (*strings.Builder).String OF A BUILDER THAT HOLDS NO BYTE: the empty string. (Its buffer is nil, or a row of which it has taken nothing yet; where that row has NO capacity the model lays one new block for unsafe.SliceData's 'some address'.) One draw. (LAID: no walk: one application.) -/
theorem Tryz.Builder_String_empty (B b : Nat) (w : World) (h : Lib.IsBuilder 195 5 B b [] w) (hBw : B ≤ w.heap.size) :
    Calls Tryz.prog 163 #[.pointer (some ⟨b, 0, none⟩)] w fun e w' => e = .returned (.string ⟨#[]⟩) ∧ Below B w w' := Any.Builder_String_empty Tryz.lays169 Tryz.Builder_Extra_169 B b w h hBw
open Go.RowKit in
/-- (*strings.Builder).String: "String returns the accumulated string.": WHATEVER THE BUILDER HOLDS. (LAID: no walk: one application.) -/
theorem Tryz.Builder_String_any (B b : Nat) (l : List UInt8) (w : World) (h : Lib.IsBuilder 195 5 B b (Lib.byteCells l) w) (hBw : B ≤ w.heap.size) :
    Calls Tryz.prog 163 #[.pointer (some ⟨b, 0, none⟩)] w fun e w' => e = .returned (.string ⟨l.toArray⟩) ∧ Below B w w' := Any.Builder_String_any Tryz.lays169 Tryz.Builder_Extra_169 B b l w h hBw
def Tryz.lays241_ren : Go.Shelf.Ren := ⟨fun | 241 => 168 | 277 => 170 | n => n, fun | 70 => 193 | 3 => 3 | 0 => 0 | 72 => 195 | 37 => 22 | 5 => 5 | n => n, fun | n => n⟩
theorem Tryz.lays241 : Go.Proofs.Lays.n241 Tryz.prog Tryz.lays241_ren := {
  mixed := by kernel_rfl
  f241 := Tryz.func168.trans (congrArg some (by kernel_rfl))
  f277 := Tryz.func170.trans (congrArg some (by kernel_rfl))
  t0 := Tryz.underlying0
  a0 := Tryz.isAgg0
  z0 := Tryz.sizeOf0
  v0 := Tryz.zeroValue0
  t3 := Tryz.underlying3
  a3 := Tryz.isAgg3
  z3 := Tryz.sizeOf3
  v3 := Tryz.zeroValue3
  t37 := Tryz.underlying22
  a37 := Tryz.isAgg22
  z37 := Tryz.sizeOf22
  v37 := Tryz.zeroValue22
  t70 := Tryz.underlying193
  a70 := Tryz.isAgg193
  z70 := Tryz.sizeOf193
  v70 := Tryz.zeroValue193
  t72 := Tryz.underlying195
  a72 := Tryz.isAgg195
  z72 := Tryz.sizeOf195
  v72 := Tryz.zeroValue195 }
theorem Tryz.Builder_Extra_241 : Builder.Extra Tryz.prog Tryz.lays241_ren := {
  sizeBuilder := by kernel_rfl
  liesBuilder := by kernel_rfl
  t5 := Tryz.underlying5
  a5 := Tryz.isAgg5
  z5 := Tryz.sizeOf5
  v5 := Tryz.zeroValue5
  infoByte := by kernel_rfl
  cellsByte := by kernel_rfl
  sizeByte := by kernel_rfl
  neB5 := by decide }
open Go.RowKit in
/-- (*strings.Builder).grow (no doc but "grow copies the buffer to a new, larger buffer so that there are at least n bytes of capacity beyond len(b.buf)."): AT A BUILDER WITHOUT A BUFFER: a new row of whatever bytes for its buffer, none of them its own yet. Three draws. (LAID: no walk: one application.) -/
theorem Tryz.Builder_grow_fresh (B b n : Nat) (w : World) (hB : B ≤ b) (hbk : w.heap[b]? = some (.cells #[.pointer (some ⟨b, 0, none⟩), .slice none 0 0] 195 (0, 0))) (hBw : B ≤ w.heap.size) (hn : n ≤ 281474976710656) :
    Calls Tryz.prog 168 #[.pointer (some ⟨b, 0, none⟩), .int .i64 n] w fun e w' => e = .returned (.tuple #[]) ∧ (Lib.BuilderAt 195 5 B b (.pointer (some ⟨b, 0, none⟩)) [] w' ∧ Below B w w') := Any.Builder_grow_fresh Tryz.lays241 Tryz.Builder_Extra_241 B b n w hB hbk hBw hn
def Tryz.lays165_ren : Go.Shelf.Ren := ⟨fun | 165 => 160 | 240 => 167 | 241 => 168 | 276 => 169 | 277 => 170 | n => n, fun | 70 => 193 | 3 => 3 | 0 => 0 | 4 => 4 | 9 => 9 | 20 => 20 | 72 => 195 | 37 => 22 | 164 => 208 | 5 => 5 | n => n, fun | n => n⟩
theorem Tryz.lays165 : Go.Proofs.Lays.n165 Tryz.prog Tryz.lays165_ren := {
  mixed := by kernel_rfl
  f165 := Tryz.func160.trans (congrArg some (by kernel_rfl))
  f240 := Tryz.func167.trans (congrArg some (by kernel_rfl))
  f241 := Tryz.func168.trans (congrArg some (by kernel_rfl))
  f276 := Tryz.func169.trans (congrArg some (by kernel_rfl))
  f277 := Tryz.func170.trans (congrArg some (by kernel_rfl))
  t0 := Tryz.underlying0
  a0 := Tryz.isAgg0
  z0 := Tryz.sizeOf0
  v0 := Tryz.zeroValue0
  t3 := Tryz.underlying3
  a3 := Tryz.isAgg3
  z3 := Tryz.sizeOf3
  v3 := Tryz.zeroValue3
  t4 := Tryz.underlying4
  a4 := Tryz.isAgg4
  z4 := Tryz.sizeOf4
  v4 := Tryz.zeroValue4
  t9 := Tryz.underlying9
  a9 := Tryz.isAgg9
  z9 := Tryz.sizeOf9
  v9 := Tryz.zeroValue9
  t20 := Tryz.underlying20
  a20 := Tryz.isAgg20
  z20 := Tryz.sizeOf20
  v20 := Tryz.zeroValue20
  t37 := Tryz.underlying22
  a37 := Tryz.isAgg22
  z37 := Tryz.sizeOf22
  v37 := Tryz.zeroValue22
  t70 := Tryz.underlying193
  a70 := Tryz.isAgg193
  z70 := Tryz.sizeOf193
  v70 := Tryz.zeroValue193
  t72 := Tryz.underlying195
  a72 := Tryz.isAgg195
  z72 := Tryz.sizeOf195
  v72 := Tryz.zeroValue195
  t164 := Tryz.underlying208
  a164 := Tryz.isAgg208
  z164 := Tryz.sizeOf208
  v164 := Tryz.zeroValue208 }
theorem Tryz.Builder_Extra_165 : Builder.Extra Tryz.prog Tryz.lays165_ren := {
  sizeBuilder := by kernel_rfl
  liesBuilder := by kernel_rfl
  t5 := Tryz.underlying5
  a5 := Tryz.isAgg5
  z5 := Tryz.sizeOf5
  v5 := Tryz.zeroValue5
  infoByte := by kernel_rfl
  cellsByte := by kernel_rfl
  sizeByte := by kernel_rfl
  neB5 := by decide }
open Go.RowKit in
/-- (*strings.Builder).Grow AT A BUILDER THAT HAS NOT BEEN WRITTEN ('var b strings.Builder; b.Grow(n)'): "Grow grows b's capacity, if necessary, to guarantee space for another n bytes.": it holds no byte behind it as before it. (LAID: no walk: one application.) -/
theorem Tryz.Builder_Grow_fresh (B b n : Nat) (w : World) (hB : B ≤ b) (hbk : w.heap[b]? = some (.cells #[.pointer none, .slice none 0 0] 195 (0, 0))) (hBw : B ≤ w.heap.size) (hn : n ≤ 281474976710656) :
    Calls Tryz.prog 160 #[.pointer (some ⟨b, 0, none⟩), .int .i64 n] w fun e w' => e = .returned (.tuple #[]) ∧ (Lib.BuilderAt 195 5 B b (.pointer (some ⟨b, 0, none⟩)) [] w' ∧ Below B w w') := Any.Builder_Grow_fresh Tryz.lays165 Tryz.Builder_Extra_165 B b n w hB hbk hBw hn
def Tryz.lays137_ren : Go.Shelf.Ren := ⟨fun | 137 => 151 | 217 => 138 | 266 => 152 | n => n, fun | 9 => 9 | 5 => 5 | 3 => 3 | n => n, fun | n => n⟩
theorem Tryz.lays137 : Go.Proofs.Lays.n137 Tryz.prog Tryz.lays137_ren := {
  mixed := by kernel_rfl
  f137 := Tryz.func151.trans (congrArg some (by kernel_rfl))
  f217 := Tryz.func138.trans (congrArg some (by kernel_rfl))
  f266 := Tryz.func152.trans (congrArg some (by kernel_rfl))
  t3 := Tryz.underlying3
  a3 := Tryz.isAgg3
  z3 := Tryz.sizeOf3
  v3 := Tryz.zeroValue3
  t5 := Tryz.underlying5
  a5 := Tryz.isAgg5
  z5 := Tryz.sizeOf5
  v5 := Tryz.zeroValue5
  t9 := Tryz.underlying9
  a9 := Tryz.isAgg9
  z9 := Tryz.sizeOf9
  v9 := Tryz.zeroValue9 }
open Go.RowKit in
/-- strings.IndexByte: "IndexByte returns the index of the first instance of c in s, or -1 if c is not present in s.": IT RETURNS 'Lib.indexByte s c'; the world is as it was. (LAID: no walk: one application.) -/
theorem Tryz.strings_IndexByte (s : ByteArray) (c : Int) (w : World) :
    Calls Tryz.prog 151 #[.string s, .int .u8 c] w fun e w' => e = .returned (.int .i64 (Lib.indexByte s.data.toList c.toNat.toUInt8)) ∧ w' = w := Any.strings_IndexByte Tryz.lays137 s c w
def Tryz.lays210_ren : Go.Shelf.Ren := ⟨fun | 210 => 158 | 206 => 147 | n => n, fun | 9 => 9 | 4 => 4 | 3 => 3 | n => n, fun | n => n⟩
theorem Tryz.lays210 : Go.Proofs.Lays.n210 Tryz.prog Tryz.lays210_ren := {
  mixed := by kernel_rfl
  f206 := Tryz.func147.trans (congrArg some (by kernel_rfl))
  f210 := Tryz.func158.trans (congrArg some (by kernel_rfl))
  t3 := Tryz.underlying3
  a3 := Tryz.isAgg3
  z3 := Tryz.sizeOf3
  v3 := Tryz.zeroValue3
  t4 := Tryz.underlying4
  a4 := Tryz.isAgg4
  z4 := Tryz.sizeOf4
  v4 := Tryz.zeroValue4
  t9 := Tryz.underlying9
  a9 := Tryz.isAgg9
  z9 := Tryz.sizeOf9
  v9 := Tryz.zeroValue9 }
open Go.RowKit in
/-- internal/stringslite.CutPrefix (what strings.CutPrefix calls). (LAID: no walk: one application.) -/
theorem Tryz.stringslite_CutPrefix (s p : ByteArray) (w : World) :
    Calls Tryz.prog 158 #[.string s, .string p] w fun e w' => e = .returned (.tuple #[.string ⟨(Lib.trimPrefix s.data.toList p.data.toList).toArray⟩, .bool (Lib.hasPrefix s.data.toList p.data.toList)]) ∧ w' = w := Any.stringslite_CutPrefix Tryz.lays210 s p w
def Tryz.lays103_ren : Go.Shelf.Ren := ⟨fun | 103 => 149 | 210 => 158 | 206 => 147 | n => n, fun | 9 => 9 | 4 => 4 | 24 => 179 | 3 => 3 | n => n, fun | n => n⟩
theorem Tryz.lays103 : Go.Proofs.Lays.n103 Tryz.prog Tryz.lays103_ren := {
  mixed := by kernel_rfl
  f103 := Tryz.func149.trans (congrArg some (by kernel_rfl))
  f206 := Tryz.func147.trans (congrArg some (by kernel_rfl))
  f210 := Tryz.func158.trans (congrArg some (by kernel_rfl))
  t3 := Tryz.underlying3
  a3 := Tryz.isAgg3
  z3 := Tryz.sizeOf3
  v3 := Tryz.zeroValue3
  t4 := Tryz.underlying4
  a4 := Tryz.isAgg4
  z4 := Tryz.sizeOf4
  v4 := Tryz.zeroValue4
  t9 := Tryz.underlying9
  a9 := Tryz.isAgg9
  z9 := Tryz.sizeOf9
  v9 := Tryz.zeroValue9
  t24 := Tryz.underlying179
  a24 := Tryz.isAgg179
  z24 := Tryz.sizeOf179
  v24 := Tryz.zeroValue179 }
open Go.RowKit in
/-- strings.CutPrefix: "CutPrefix returns s without the provided leading prefix string and reports whether it found the prefix. If s doesn't start with prefix, CutPrefix returns s, false. If prefix is the empty string, CutPrefix returns s, true.": IT RETURNS '(Lib.trimPrefix s p, Lib.hasPrefix s p)'; the world is as it was. (LAID: no walk: one application.) -/
theorem Tryz.strings_CutPrefix (s p : ByteArray) (w : World) :
    Calls Tryz.prog 149 #[.string s, .string p] w fun e w' => e = .returned (.tuple #[.string ⟨(Lib.trimPrefix s.data.toList p.data.toList).toArray⟩, .bool (Lib.hasPrefix s.data.toList p.data.toList)]) ∧ w' = w := Any.strings_CutPrefix Tryz.lays103 s p w
open Go.RowKit in
/-- (*strings.Builder).Len: "Len returns the number of accumulated bytes; b.Len() == len(b.String()).": the world is as it was. (THE FORM '_f': 'Lib.IsBuilderF'.) (LAID: no walk: one application.) -/
theorem Tryz.Builder_Len_f (B b : Nat) (bs : List Value) (w : World) (h : Lib.IsBuilderF 195 5 B b bs w) :
    Calls Tryz.prog 162 #[.pointer (some ⟨b, 0, none⟩)] w fun e w' => e = .returned (.int .i64 bs.length) ∧ w' = w := Any.Builder_Len_f Tryz.lays170 B b bs w h
open Go.RowKit in
/-- (*strings.Builder).String: "String returns the accumulated string.": OF A BUILDER THAT HOLDS AT LEAST ONE BYTE. ✋ THE MODEL FREEZES THOSE BYTES IN THE BUFFER (unsafe.String): a later write INTO them ends the model's run without an answer; a later append BEHIND them goes on. The statement's order of evaluation is drawn: one draw. THE FORM '_f': IT SAYS BESIDES THAT THE BUILDER IS A BUILDER STILL ('Lib.IsBuilderF', the same bytes): SO IT CAN BE WRITTEN ON: 'b.WriteString(b.String()[:k])'. (LAID: no walk: one application.) -/
theorem Tryz.Builder_String_f (B b : Nat) (l : List UInt8) (w : World) (h : Lib.IsBuilderF 195 5 B b (Lib.byteCells l) w) (h0 : l ≠ []) :
    Calls Tryz.prog 163 #[.pointer (some ⟨b, 0, none⟩)] w fun e w' => e = .returned (.string ⟨l.toArray⟩) ∧ (Lib.IsBuilderF 195 5 B b (Lib.byteCells l) w' ∧ Below B w w') := Any.Builder_String_f Tryz.lays169 Tryz.Builder_Extra_169 B b l w h h0
open Go.RowKit in
/-- (*strings.Builder).String OF A BUILDER THAT HOLDS NO BYTE: the empty string; THE FORM '_f': a builder still. (LAID: no walk: one application.) -/
theorem Tryz.Builder_String_empty_f (B b : Nat) (w : World) (h : Lib.IsBuilderF 195 5 B b [] w) (hBw : B ≤ w.heap.size) :
    Calls Tryz.prog 163 #[.pointer (some ⟨b, 0, none⟩)] w fun e w' => e = .returned (.string ⟨#[]⟩) ∧ (Lib.IsBuilderF 195 5 B b [] w' ∧ Below B w w') := Any.Builder_String_empty_f Tryz.lays169 Tryz.Builder_Extra_169 B b w h hBw
open Go.RowKit in
/-- (*strings.Builder).String: "String returns the accumulated string.": WHATEVER THE BUILDER HOLDS; THE FORM '_f': OF A BUILDER THAT MAY HAVE BEEN READ BEFORE; AND IT IS A BUILDER STILL, holding the same bytes: it can be written on. (LAID: no walk: one application.) -/
theorem Tryz.Builder_String_any_f (B b : Nat) (l : List UInt8) (w : World) (h : Lib.IsBuilderF 195 5 B b (Lib.byteCells l) w) (hBw : B ≤ w.heap.size) :
    Calls Tryz.prog 163 #[.pointer (some ⟨b, 0, none⟩)] w fun e w' => e = .returned (.string ⟨l.toArray⟩) ∧ (Lib.IsBuilderF 195 5 B b (Lib.byteCells l) w' ∧ Below B w w') := Any.Builder_String_any_f Tryz.lays169 Tryz.Builder_Extra_169 B b l w h hBw
def Tryz.lays217_ren : Go.Shelf.Ren := ⟨fun | 217 => 138 | 266 => 152 | n => n, fun | 9 => 9 | 5 => 5 | 3 => 3 | n => n, fun | n => n⟩
theorem Tryz.lays217 : Go.Proofs.Lays.n217 Tryz.prog Tryz.lays217_ren := {
  mixed := by kernel_rfl
  f217 := Tryz.func138.trans (congrArg some (by kernel_rfl))
  f266 := Tryz.func152.trans (congrArg some (by kernel_rfl))
  t3 := Tryz.underlying3
  a3 := Tryz.isAgg3
  z3 := Tryz.sizeOf3
  v3 := Tryz.zeroValue3
  t5 := Tryz.underlying5
  a5 := Tryz.isAgg5
  z5 := Tryz.sizeOf5
  v5 := Tryz.zeroValue5
  t9 := Tryz.underlying9
  a9 := Tryz.isAgg9
  z9 := Tryz.sizeOf9
  v9 := Tryz.zeroValue9 }
open Go.RowKit Go.Lib in
/-- internal/stringslite.IndexByte (what strings.IndexByte calls): IT RETURNS 'Lib.indexByte s c'; the world is as it was. (LAID: no walk: one application.) -/
theorem Tryz.stringslite_IndexByte (s : ByteArray) (c : Int) (w : World) :
    Calls Tryz.prog 138 #[.string s, .int .u8 c] w fun e w' => e = .returned (.int .i64 (Lib.indexByte s.data.toList c.toNat.toUInt8)) ∧ w' = w := Any.stringslite_IndexByte Tryz.lays217 s c w
def Tryz.lays224_ren : Go.Shelf.Ren := ⟨fun | 224 => 140 | n => n, fun | 3 => 3 | n => n, fun | n => n⟩
theorem Tryz.lays224 : Go.Proofs.Lays.n224 Tryz.prog Tryz.lays224_ren := {
  mixed := by kernel_rfl
  f224 := Tryz.func140.trans (congrArg some (by kernel_rfl))
  t3 := Tryz.underlying3
  a3 := Tryz.isAgg3
  z3 := Tryz.sizeOf3
  v3 := Tryz.zeroValue3 }
open Go.RowKit Go.Lib in
/-- internal/bytealg.Cutover: "Cutover reports the number of failures of IndexByte we should tolerate before switching over to Index. n is the number of bytes processed so far.": on amd64: (n + 16) / 8. (LAID: no walk: one application.) -/
theorem Tryz.bytealg_Cutover (n : Int) (h0 : 0 ≤ n) (h1 : n < 4611686018427387904) (w : World) :
    Calls Tryz.prog 140 #[.int .i64 n] w fun e w' => e = .returned (.int .i64 ((n + 16) / 8)) ∧ w' = w := Any.bytealg_Cutover Tryz.lays224 n h0 h1 w
def Tryz.lays314_ren : Go.Shelf.Ren := ⟨fun | 314 => 153 | n => n, fun | 9 => 9 | 51 => 186 | 3 => 3 | 4 => 4 | 5 => 5 | 46 => 126 | n => n, fun | n => n⟩
theorem Tryz.lays314 : Go.Proofs.Lays.n314 Tryz.prog Tryz.lays314_ren := {
  mixed := by kernel_rfl
  f314 := Tryz.func153.trans (congrArg some (by kernel_rfl))
  t3 := Tryz.underlying3
  a3 := Tryz.isAgg3
  z3 := Tryz.sizeOf3
  v3 := Tryz.zeroValue3
  t4 := Tryz.underlying4
  a4 := Tryz.isAgg4
  z4 := Tryz.sizeOf4
  v4 := Tryz.zeroValue4
  t5 := Tryz.underlying5
  a5 := Tryz.isAgg5
  z5 := Tryz.sizeOf5
  v5 := Tryz.zeroValue5
  t9 := Tryz.underlying9
  a9 := Tryz.isAgg9
  z9 := Tryz.sizeOf9
  v9 := Tryz.zeroValue9
  t46 := Tryz.underlying126
  a46 := Tryz.isAgg126
  z46 := Tryz.sizeOf126
  v46 := Tryz.zeroValue126
  t51 := Tryz.underlying186
  a51 := Tryz.isAgg186
  z51 := Tryz.sizeOf186
  v51 := Tryz.zeroValue186 }
open Go.RowKit Go.Lib in
/-- hashStr: "returns the hash and the appropriate multiplicative factor for use in Rabin-Karp algorithm": THE HASH OF ALL OF sep, AND 16777619 ^ len(sep), both in uint32. (LAID: no walk: one application.) -/
theorem Tryz.bytealg_hashStr (sep : ByteArray) (hs : sep.size < 4294967281) (w : World) :
    Calls Tryz.prog 153 #[.string sep] w fun e w' => e = .returned (.tuple #[.int .u32 (RK.H sep.data.toList % 4294967296), .int .u32 (16777619 ^ sep.size % 4294967296)]) ∧ w' = w := Any.bytealg_hashStr Tryz.lays314 sep hs w
def Tryz.lays267_ren : Go.Shelf.Ren := ⟨fun | 267 => 141 | 314 => 153 | n => n, fun | 9 => 9 | 3 => 3 | 146 => 187 | 51 => 186 | 4 => 4 | 5 => 5 | 46 => 126 | n => n, fun | n => n⟩
theorem Tryz.lays267 : Go.Proofs.Lays.n267 Tryz.prog Tryz.lays267_ren := {
  mixed := by kernel_rfl
  f267 := Tryz.func141.trans (congrArg some (by kernel_rfl))
  f314 := Tryz.func153.trans (congrArg some (by kernel_rfl))
  t3 := Tryz.underlying3
  a3 := Tryz.isAgg3
  z3 := Tryz.sizeOf3
  v3 := Tryz.zeroValue3
  t4 := Tryz.underlying4
  a4 := Tryz.isAgg4
  z4 := Tryz.sizeOf4
  v4 := Tryz.zeroValue4
  t5 := Tryz.underlying5
  a5 := Tryz.isAgg5
  z5 := Tryz.sizeOf5
  v5 := Tryz.zeroValue5
  t9 := Tryz.underlying9
  a9 := Tryz.isAgg9
  z9 := Tryz.sizeOf9
  v9 := Tryz.zeroValue9
  t46 := Tryz.underlying126
  a46 := Tryz.isAgg126
  z46 := Tryz.sizeOf126
  v46 := Tryz.zeroValue126
  t51 := Tryz.underlying186
  a51 := Tryz.isAgg186
  z51 := Tryz.sizeOf186
  v51 := Tryz.zeroValue186
  t146 := Tryz.underlying187
  a146 := Tryz.isAgg187
  z146 := Tryz.sizeOf187
  v146 := Tryz.zeroValue187 }
open Go.RowKit Go.Lib in
theorem Tryz.bytealg_IndexRabinKarp (s sep : ByteArray) (h1 : 1 ≤ sep.size) (h2 : sep.size ≤ s.size) (hs : s.size < 4294967281) (w : World) :
    Calls Tryz.prog 141 #[.string s, .string sep] w fun e w' => e = .returned (.int .i64 (Lib.index s.data.toList sep.data.toList)) ∧ w' = w := Any.bytealg_IndexRabinKarp Tryz.lays267 s sep h1 h2 hs w
def Tryz.lays219_ren : Go.Shelf.Ren := ⟨fun | 219 => 124 | 217 => 138 | 225 => 139 | 224 => 140 | 267 => 141 | 266 => 152 | 314 => 153 | n => n, fun | 9 => 9 | 3 => 3 | 4 => 4 | 5 => 5 | 46 => 126 | 146 => 187 | 51 => 186 | n => n, fun | 1 => 1 | n => n⟩
theorem Tryz.lays219 : Go.Proofs.Lays.n219 Tryz.prog Tryz.lays219_ren := {
  mixed := by kernel_rfl
  f217 := Tryz.func138.trans (congrArg some (by kernel_rfl))
  f219 := Tryz.func124.trans (congrArg some (by kernel_rfl))
  f224 := Tryz.func140.trans (congrArg some (by kernel_rfl))
  f225 := Tryz.func139.trans (congrArg some (by kernel_rfl))
  f266 := Tryz.func152.trans (congrArg some (by kernel_rfl))
  f267 := Tryz.func141.trans (congrArg some (by kernel_rfl))
  f314 := Tryz.func153.trans (congrArg some (by kernel_rfl))
  t3 := Tryz.underlying3
  a3 := Tryz.isAgg3
  z3 := Tryz.sizeOf3
  v3 := Tryz.zeroValue3
  t4 := Tryz.underlying4
  a4 := Tryz.isAgg4
  z4 := Tryz.sizeOf4
  v4 := Tryz.zeroValue4
  t5 := Tryz.underlying5
  a5 := Tryz.isAgg5
  z5 := Tryz.sizeOf5
  v5 := Tryz.zeroValue5
  t9 := Tryz.underlying9
  a9 := Tryz.isAgg9
  z9 := Tryz.sizeOf9
  v9 := Tryz.zeroValue9
  t46 := Tryz.underlying126
  a46 := Tryz.isAgg126
  z46 := Tryz.sizeOf126
  v46 := Tryz.zeroValue126
  t51 := Tryz.underlying186
  a51 := Tryz.isAgg186
  z51 := Tryz.sizeOf186
  v51 := Tryz.zeroValue186
  t146 := Tryz.underlying187
  a146 := Tryz.isAgg187
  z146 := Tryz.sizeOf187
  v146 := Tryz.zeroValue187
  g1 := by kernel_rfl }
open Go.RowKit Go.Lib in
/-- internal/stringslite.Index (what strings.Index calls) AT A substr OF ONE BYTE c: IT RETURNS 'Lib.indexByte s c'; the world is as it was. (LAID: no walk: one application.) -/
theorem Tryz.stringslite_Index_one (s : ByteArray) (c : UInt8) (w : World) :
    Calls Tryz.prog 124 #[.string s, .string ⟨#[c]⟩] w fun e w' => e = .returned (.int .i64 (Lib.indexByte s.data.toList c)) ∧ w' = w := Any.stringslite_Index_one Tryz.lays219 s c w
open Go.RowKit Go.Lib in
/-- internal/stringslite.Index (what strings.Index calls) AT A substr OF WHATEVER LENGTH: IT RETURNS 'Lib.index s substr'; the world is as it was. 'm': what internal/bytealg.MaxLen holds: whatever. (LAID: no walk: one application.) -/
theorem Tryz.stringslite_Index (s sub : ByteArray) (m : Int) (w : World) (hs : s.size < 4294967281) (hm : w.cell? ⟨1, 0, none⟩ = some (.int .i64 m)) :
    Calls Tryz.prog 124 #[.string s, .string sub] w fun e w' => e = .returned (.int .i64 (Lib.index s.data.toList sub.data.toList)) ∧ w' = w := Any.stringslite_Index Tryz.lays219 s sub m w hs hm
def Tryz.lays143_ren : Go.Shelf.Ren := ⟨fun | 143 => 110 | 219 => 124 | 217 => 138 | 225 => 139 | 224 => 140 | 267 => 141 | 266 => 152 | 314 => 153 | n => n, fun | 9 => 9 | 3 => 3 | 4 => 4 | 5 => 5 | 46 => 126 | 146 => 187 | 51 => 186 | n => n, fun | 1 => 1 | n => n⟩
theorem Tryz.lays143 : Go.Proofs.Lays.n143 Tryz.prog Tryz.lays143_ren := {
  mixed := by kernel_rfl
  f143 := Tryz.func110.trans (congrArg some (by kernel_rfl))
  f217 := Tryz.func138.trans (congrArg some (by kernel_rfl))
  f219 := Tryz.func124.trans (congrArg some (by kernel_rfl))
  f224 := Tryz.func140.trans (congrArg some (by kernel_rfl))
  f225 := Tryz.func139.trans (congrArg some (by kernel_rfl))
  f266 := Tryz.func152.trans (congrArg some (by kernel_rfl))
  f267 := Tryz.func141.trans (congrArg some (by kernel_rfl))
  f314 := Tryz.func153.trans (congrArg some (by kernel_rfl))
  t3 := Tryz.underlying3
  a3 := Tryz.isAgg3
  z3 := Tryz.sizeOf3
  v3 := Tryz.zeroValue3
  t4 := Tryz.underlying4
  a4 := Tryz.isAgg4
  z4 := Tryz.sizeOf4
  v4 := Tryz.zeroValue4
  t5 := Tryz.underlying5
  a5 := Tryz.isAgg5
  z5 := Tryz.sizeOf5
  v5 := Tryz.zeroValue5
  t9 := Tryz.underlying9
  a9 := Tryz.isAgg9
  z9 := Tryz.sizeOf9
  v9 := Tryz.zeroValue9
  t46 := Tryz.underlying126
  a46 := Tryz.isAgg126
  z46 := Tryz.sizeOf126
  v46 := Tryz.zeroValue126
  t51 := Tryz.underlying186
  a51 := Tryz.isAgg186
  z51 := Tryz.sizeOf186
  v51 := Tryz.zeroValue186
  t146 := Tryz.underlying187
  a146 := Tryz.isAgg187
  z146 := Tryz.sizeOf187
  v146 := Tryz.zeroValue187
  g1 := by kernel_rfl }
open Go.RowKit Go.Lib in
/-- strings.Index: "Index returns the index of the first instance of substr in s, or -1 if substr is not present in s.": AT A substr OF ONE BYTE c: IT RETURNS 'Lib.indexByte s c'; the world is as it was. (LAID: no walk: one application.) -/
theorem Tryz.strings_Index_one (s : ByteArray) (c : UInt8) (w : World) :
    Calls Tryz.prog 110 #[.string s, .string ⟨#[c]⟩] w fun e w' => e = .returned (.int .i64 (Lib.indexByte s.data.toList c)) ∧ w' = w := Any.strings_Index_one Tryz.lays143 s c w
open Go.RowKit Go.Lib in
/-- strings.Index: "Index returns the index of the first instance of substr in s, or -1 if substr is not present in s.": IT RETURNS 'Lib.index s substr'; the world is as it was. (LAID: no walk: one application.) -/
theorem Tryz.strings_Index (s sub : ByteArray) (m : Int) (w : World) (hs : s.size < 4294967281) (hm : w.cell? ⟨1, 0, none⟩ = some (.int .i64 m)) :
    Calls Tryz.prog 110 #[.string s, .string sub] w fun e w' => e = .returned (.int .i64 (Lib.index s.data.toList sub.data.toList)) ∧ w' = w := Any.strings_Index Tryz.lays143 s sub m w hs hm
def Tryz.lays220_ren : Go.Shelf.Ren := ⟨fun | 220 => 164 | 219 => 124 | 217 => 138 | 225 => 139 | 224 => 140 | 267 => 141 | 266 => 152 | 314 => 153 | n => n, fun | 9 => 9 | 4 => 4 | 3 => 3 | 5 => 5 | 46 => 126 | 146 => 187 | 51 => 186 | n => n, fun | 1 => 1 | n => n⟩
theorem Tryz.lays220 : Go.Proofs.Lays.n220 Tryz.prog Tryz.lays220_ren := {
  mixed := by kernel_rfl
  f217 := Tryz.func138.trans (congrArg some (by kernel_rfl))
  f219 := Tryz.func124.trans (congrArg some (by kernel_rfl))
  f220 := Tryz.func164.trans (congrArg some (by kernel_rfl))
  f224 := Tryz.func140.trans (congrArg some (by kernel_rfl))
  f225 := Tryz.func139.trans (congrArg some (by kernel_rfl))
  f266 := Tryz.func152.trans (congrArg some (by kernel_rfl))
  f267 := Tryz.func141.trans (congrArg some (by kernel_rfl))
  f314 := Tryz.func153.trans (congrArg some (by kernel_rfl))
  t3 := Tryz.underlying3
  a3 := Tryz.isAgg3
  z3 := Tryz.sizeOf3
  v3 := Tryz.zeroValue3
  t4 := Tryz.underlying4
  a4 := Tryz.isAgg4
  z4 := Tryz.sizeOf4
  v4 := Tryz.zeroValue4
  t5 := Tryz.underlying5
  a5 := Tryz.isAgg5
  z5 := Tryz.sizeOf5
  v5 := Tryz.zeroValue5
  t9 := Tryz.underlying9
  a9 := Tryz.isAgg9
  z9 := Tryz.sizeOf9
  v9 := Tryz.zeroValue9
  t46 := Tryz.underlying126
  a46 := Tryz.isAgg126
  z46 := Tryz.sizeOf126
  v46 := Tryz.zeroValue126
  t51 := Tryz.underlying186
  a51 := Tryz.isAgg186
  z51 := Tryz.sizeOf186
  v51 := Tryz.zeroValue186
  t146 := Tryz.underlying187
  a146 := Tryz.isAgg187
  z146 := Tryz.sizeOf187
  v146 := Tryz.zeroValue187
  g1 := by kernel_rfl }
open Go.RowKit Go.Lib in
/-- internal/stringslite.Cut (what strings.Cut calls): IT RETURNS 'Lib.cut s sep'; the world is as it was but for the count of draws. (LAID: no walk: one application.) -/
theorem Tryz.stringslite_Cut (s sep : ByteArray) (m : Int) (w : World) (hs : s.size < 4294967281) (hm : w.cell? ⟨1, 0, none⟩ = some (.int .i64 m)) :
    Calls Tryz.prog 164 #[.string s, .string sep] w fun e w' => e = .returned (.tuple #[.string ⟨(Lib.cut s.data.toList sep.data.toList).1.toArray⟩, .string ⟨(Lib.cut s.data.toList sep.data.toList).2.1.toArray⟩, .bool (Lib.cut s.data.toList sep.data.toList).2.2]) ∧ ∃ n, w' = w.drewN n := Any.stringslite_Cut Tryz.lays220 s sep m w hs hm
def Tryz.lays145_ren : Go.Shelf.Ren := ⟨fun | 145 => 154 | 220 => 164 | 219 => 124 | 217 => 138 | 225 => 139 | 224 => 140 | 267 => 141 | 266 => 152 | 314 => 153 | n => n, fun | 9 => 9 | 4 => 4 | 59 => 172 | 3 => 3 | 5 => 5 | 46 => 126 | 146 => 187 | 51 => 186 | n => n, fun | 1 => 1 | n => n⟩
theorem Tryz.lays145 : Go.Proofs.Lays.n145 Tryz.prog Tryz.lays145_ren := {
  mixed := by kernel_rfl
  f145 := Tryz.func154.trans (congrArg some (by kernel_rfl))
  f217 := Tryz.func138.trans (congrArg some (by kernel_rfl))
  f219 := Tryz.func124.trans (congrArg some (by kernel_rfl))
  f220 := Tryz.func164.trans (congrArg some (by kernel_rfl))
  f224 := Tryz.func140.trans (congrArg some (by kernel_rfl))
  f225 := Tryz.func139.trans (congrArg some (by kernel_rfl))
  f266 := Tryz.func152.trans (congrArg some (by kernel_rfl))
  f267 := Tryz.func141.trans (congrArg some (by kernel_rfl))
  f314 := Tryz.func153.trans (congrArg some (by kernel_rfl))
  t3 := Tryz.underlying3
  a3 := Tryz.isAgg3
  z3 := Tryz.sizeOf3
  v3 := Tryz.zeroValue3
  t4 := Tryz.underlying4
  a4 := Tryz.isAgg4
  z4 := Tryz.sizeOf4
  v4 := Tryz.zeroValue4
  t5 := Tryz.underlying5
  a5 := Tryz.isAgg5
  z5 := Tryz.sizeOf5
  v5 := Tryz.zeroValue5
  t9 := Tryz.underlying9
  a9 := Tryz.isAgg9
  z9 := Tryz.sizeOf9
  v9 := Tryz.zeroValue9
  t46 := Tryz.underlying126
  a46 := Tryz.isAgg126
  z46 := Tryz.sizeOf126
  v46 := Tryz.zeroValue126
  t51 := Tryz.underlying186
  a51 := Tryz.isAgg186
  z51 := Tryz.sizeOf186
  v51 := Tryz.zeroValue186
  t59 := Tryz.underlying172
  a59 := Tryz.isAgg172
  z59 := Tryz.sizeOf172
  v59 := Tryz.zeroValue172
  t146 := Tryz.underlying187
  a146 := Tryz.isAgg187
  z146 := Tryz.sizeOf187
  v146 := Tryz.zeroValue187
  g1 := by kernel_rfl }
open Go.RowKit Go.Lib in
/-- strings.Cut: "Cut slices s around the first instance of sep, returning the text before and after sep. The found result reports whether sep appears in s. If sep does not appear in s, cut returns s, "", false.": IT RETURNS 'Lib.cut s sep'; the world is as it was but for the count of draws. (LAID: no walk: one application.) -/
theorem Tryz.strings_Cut (s sep : ByteArray) (m : Int) (w : World) (hs : s.size < 4294967281) (hm : w.cell? ⟨1, 0, none⟩ = some (.int .i64 m)) :
    Calls Tryz.prog 154 #[.string s, .string sep] w fun e w' => e = .returned (.tuple #[.string ⟨(Lib.cut s.data.toList sep.data.toList).1.toArray⟩, .string ⟨(Lib.cut s.data.toList sep.data.toList).2.1.toArray⟩, .bool (Lib.cut s.data.toList sep.data.toList).2.2]) ∧ ∃ n, w' = w.drewN n := Any.strings_Cut Tryz.lays145 s sep m w hs hm
def Tryz.lays138_ren : Go.Shelf.Ren := ⟨fun | 138 => 109 | 195 => 121 | 218 => 123 | 143 => 110 | 219 => 124 | 217 => 138 | 225 => 139 | 224 => 140 | 267 => 141 | 266 => 152 | 314 => 153 | n => n, fun | 9 => 9 | 3 => 3 | 4 => 4 | 5 => 5 | 0 => 0 | 46 => 126 | 146 => 187 | 51 => 186 | n => n, fun | 1 => 1 | n => n⟩
theorem Tryz.lays138 : Go.Proofs.Lays.n138 Tryz.prog Tryz.lays138_ren := {
  mixed := by kernel_rfl
  f138 := Tryz.func109.trans (congrArg some (by kernel_rfl))
  f143 := Tryz.func110.trans (congrArg some (by kernel_rfl))
  f195 := Tryz.func121.trans (congrArg some (by kernel_rfl))
  f217 := Tryz.func138.trans (congrArg some (by kernel_rfl))
  f218 := Tryz.func123.trans (congrArg some (by kernel_rfl))
  f219 := Tryz.func124.trans (congrArg some (by kernel_rfl))
  f224 := Tryz.func140.trans (congrArg some (by kernel_rfl))
  f225 := Tryz.func139.trans (congrArg some (by kernel_rfl))
  f266 := Tryz.func152.trans (congrArg some (by kernel_rfl))
  f267 := Tryz.func141.trans (congrArg some (by kernel_rfl))
  f314 := Tryz.func153.trans (congrArg some (by kernel_rfl))
  t0 := Tryz.underlying0
  a0 := Tryz.isAgg0
  z0 := Tryz.sizeOf0
  v0 := Tryz.zeroValue0
  t3 := Tryz.underlying3
  a3 := Tryz.isAgg3
  z3 := Tryz.sizeOf3
  v3 := Tryz.zeroValue3
  t4 := Tryz.underlying4
  a4 := Tryz.isAgg4
  z4 := Tryz.sizeOf4
  v4 := Tryz.zeroValue4
  t5 := Tryz.underlying5
  a5 := Tryz.isAgg5
  z5 := Tryz.sizeOf5
  v5 := Tryz.zeroValue5
  t9 := Tryz.underlying9
  a9 := Tryz.isAgg9
  z9 := Tryz.sizeOf9
  v9 := Tryz.zeroValue9
  t46 := Tryz.underlying126
  a46 := Tryz.isAgg126
  z46 := Tryz.sizeOf126
  v46 := Tryz.zeroValue126
  t51 := Tryz.underlying186
  a51 := Tryz.isAgg186
  z51 := Tryz.sizeOf186
  v51 := Tryz.zeroValue186
  t146 := Tryz.underlying187
  a146 := Tryz.isAgg187
  z146 := Tryz.sizeOf187
  v146 := Tryz.zeroValue187
  g1 := by kernel_rfl }
open Go.RowKit Go.Lib in
/-- strings.Count AT A substr OF ONE BYTE ('hp'): "Count counts the number of non-overlapping instances of substr in s.": IT RETURNS 'Lib.countByte s (that byte)'; the world is as it was. ✋ NO CONTRACT HERE YET at an empty substr (utf8.RuneCountInString) or at a longer one (a loop over strings.Index). (LAID: no walk: one application.) -/
theorem Tryz.strings_Count_one (s : ByteArray) (c : UInt8) (w : World) :
    Calls Tryz.prog 109 #[.string s, .string ⟨#[c]⟩] w fun e w' => e = .returned (.int .i64 (Lib.countByte s.data.toList c)) ∧ w' = w := Any.strings_Count_one Tryz.lays138 s c w
open Go.RowKit Go.Lib in
/-- strings.Count AT A substr OF TWO BYTES OR MORE: "Count counts the number of non-overlapping instances of substr in s.": IT RETURNS 'Lib.count s substr'; the world is as it was. (LAID: no walk: one application.) -/
theorem Tryz.strings_Count (s sub : ByteArray) (m : Int) (w : World) (hs : s.size < 4294967281) (hm : w.cell? ⟨1, 0, none⟩ = some (.int .i64 m)) (h2 : 2 ≤ sub.size) :
    Calls Tryz.prog 109 #[.string s, .string sub] w fun e w' => e = .returned (.int .i64 (Lib.countB s sub)) ∧ w' = w := Any.strings_Count Tryz.lays138 s sub m w hs hm h2
def Tryz.laysM219_ren : Go.Shelf.Ren := ⟨fun | 219 => 124 | 217 => 138 | 225 => 139 | 224 => 140 | 267 => 141 | 266 => 152 | 314 => 153 | n => n, fun | 9 => 9 | 3 => 3 | 4 => 4 | 5 => 5 | 46 => 126 | 146 => 187 | 51 => 186 | n => n, fun | 1 => 1 | n => n⟩
theorem Tryz.laysM219 : Go.Proofs.LaysM.n219 Tryz.prog Tryz.laysM219_ren := {
  mixed := by kernel_rfl
  f217 := Tryz.func138.trans (congrArg some (by kernel_rfl))
  f219 := Tryz.func124.trans (congrArg some (by kernel_rfl))
  f224 := Tryz.func140.trans (congrArg some (by kernel_rfl))
  f225 := Tryz.func139.trans (congrArg some (by kernel_rfl))
  f266 := Tryz.func152.trans (congrArg some (by kernel_rfl))
  f267 := Tryz.func141.trans (congrArg some (by kernel_rfl))
  f314 := Tryz.func153.trans (congrArg some (by kernel_rfl))
  t3 := Tryz.underlying3
  a3 := Tryz.isAgg3
  z3 := Tryz.sizeOf3
  v3 := Tryz.zeroValue3
  t4 := Tryz.underlying4
  a4 := Tryz.isAgg4
  z4 := Tryz.sizeOf4
  v4 := Tryz.zeroValue4
  t5 := Tryz.underlying5
  a5 := Tryz.isAgg5
  z5 := Tryz.sizeOf5
  v5 := Tryz.zeroValue5
  t9 := Tryz.underlying9
  a9 := Tryz.isAgg9
  z9 := Tryz.sizeOf9
  v9 := Tryz.zeroValue9
  t46 := Tryz.underlying126
  a46 := Tryz.isAgg126
  z46 := Tryz.sizeOf126
  v46 := Tryz.zeroValue126
  t51 := Tryz.underlying186
  a51 := Tryz.isAgg186
  z51 := Tryz.sizeOf186
  v51 := Tryz.zeroValue186
  t146 := Tryz.underlying187
  a146 := Tryz.isAgg187
  z146 := Tryz.sizeOf187
  v146 := Tryz.zeroValue187
  g1 := by kernel_rfl
  i3 := by kernel_rfl
  i4 := by kernel_rfl
  i5 := by kernel_rfl
  i9 := by kernel_rfl
  i46 := by kernel_rfl
  i51 := by kernel_rfl
  i146 := by kernel_rfl
  m1 := by kernel_rfl
  s1_3 := fun w h => Go.Proofs.cell_of_shapedOpen_int (zero := #[.int .i64 0]) (t := 3) h (of_decide_eq_true (by kernel_rfl)) (by kernel_rfl) rfl (by kernel_rfl) (by kernel_rfl) Tryz.underlying3 }
open Go.RowKit Go.Lib in
theorem Tryz.stringslite_Index_shaped (s sub : ByteArray) (w : World) (h : w.ShapedOpen Tryz.prog) (hs : s.size < 4294967281) :
    Calls Tryz.prog 124 #[.string s, .string sub] w fun e w' => e = .returned (.int .i64 (Lib.index s.data.toList sub.data.toList)) ∧ w' = w := Any.stringslite_Index_shaped Tryz.laysM219 s sub w h hs
def Tryz.laysM143_ren : Go.Shelf.Ren := ⟨fun | 143 => 110 | 219 => 124 | 217 => 138 | 225 => 139 | 224 => 140 | 267 => 141 | 266 => 152 | 314 => 153 | n => n, fun | 9 => 9 | 3 => 3 | 4 => 4 | 5 => 5 | 46 => 126 | 146 => 187 | 51 => 186 | n => n, fun | 1 => 1 | n => n⟩
theorem Tryz.laysM143 : Go.Proofs.LaysM.n143 Tryz.prog Tryz.laysM143_ren := {
  mixed := by kernel_rfl
  f143 := Tryz.func110.trans (congrArg some (by kernel_rfl))
  f217 := Tryz.func138.trans (congrArg some (by kernel_rfl))
  f219 := Tryz.func124.trans (congrArg some (by kernel_rfl))
  f224 := Tryz.func140.trans (congrArg some (by kernel_rfl))
  f225 := Tryz.func139.trans (congrArg some (by kernel_rfl))
  f266 := Tryz.func152.trans (congrArg some (by kernel_rfl))
  f267 := Tryz.func141.trans (congrArg some (by kernel_rfl))
  f314 := Tryz.func153.trans (congrArg some (by kernel_rfl))
  t3 := Tryz.underlying3
  a3 := Tryz.isAgg3
  z3 := Tryz.sizeOf3
  v3 := Tryz.zeroValue3
  t4 := Tryz.underlying4
  a4 := Tryz.isAgg4
  z4 := Tryz.sizeOf4
  v4 := Tryz.zeroValue4
  t5 := Tryz.underlying5
  a5 := Tryz.isAgg5
  z5 := Tryz.sizeOf5
  v5 := Tryz.zeroValue5
  t9 := Tryz.underlying9
  a9 := Tryz.isAgg9
  z9 := Tryz.sizeOf9
  v9 := Tryz.zeroValue9
  t46 := Tryz.underlying126
  a46 := Tryz.isAgg126
  z46 := Tryz.sizeOf126
  v46 := Tryz.zeroValue126
  t51 := Tryz.underlying186
  a51 := Tryz.isAgg186
  z51 := Tryz.sizeOf186
  v51 := Tryz.zeroValue186
  t146 := Tryz.underlying187
  a146 := Tryz.isAgg187
  z146 := Tryz.sizeOf187
  v146 := Tryz.zeroValue187
  g1 := by kernel_rfl
  i3 := by kernel_rfl
  i4 := by kernel_rfl
  i5 := by kernel_rfl
  i9 := by kernel_rfl
  i46 := by kernel_rfl
  i51 := by kernel_rfl
  i146 := by kernel_rfl
  m1 := by kernel_rfl
  s1_3 := fun w h => Go.Proofs.cell_of_shapedOpen_int (zero := #[.int .i64 0]) (t := 3) h (of_decide_eq_true (by kernel_rfl)) (by kernel_rfl) rfl (by kernel_rfl) (by kernel_rfl) Tryz.underlying3 }
open Go.RowKit Go.Lib in
theorem Tryz.strings_Index_shaped (s sub : ByteArray) (w : World) (h : w.ShapedOpen Tryz.prog) (hs : s.size < 4294967281) :
    Calls Tryz.prog 110 #[.string s, .string sub] w fun e w' => e = .returned (.int .i64 (Lib.index s.data.toList sub.data.toList)) ∧ w' = w := Any.strings_Index_shaped Tryz.laysM143 s sub w h hs
def Tryz.laysM220_ren : Go.Shelf.Ren := ⟨fun | 220 => 164 | 219 => 124 | 217 => 138 | 225 => 139 | 224 => 140 | 267 => 141 | 266 => 152 | 314 => 153 | n => n, fun | 9 => 9 | 4 => 4 | 3 => 3 | 5 => 5 | 46 => 126 | 146 => 187 | 51 => 186 | n => n, fun | 1 => 1 | n => n⟩
theorem Tryz.laysM220 : Go.Proofs.LaysM.n220 Tryz.prog Tryz.laysM220_ren := {
  mixed := by kernel_rfl
  f217 := Tryz.func138.trans (congrArg some (by kernel_rfl))
  f219 := Tryz.func124.trans (congrArg some (by kernel_rfl))
  f220 := Tryz.func164.trans (congrArg some (by kernel_rfl))
  f224 := Tryz.func140.trans (congrArg some (by kernel_rfl))
  f225 := Tryz.func139.trans (congrArg some (by kernel_rfl))
  f266 := Tryz.func152.trans (congrArg some (by kernel_rfl))
  f267 := Tryz.func141.trans (congrArg some (by kernel_rfl))
  f314 := Tryz.func153.trans (congrArg some (by kernel_rfl))
  t3 := Tryz.underlying3
  a3 := Tryz.isAgg3
  z3 := Tryz.sizeOf3
  v3 := Tryz.zeroValue3
  t4 := Tryz.underlying4
  a4 := Tryz.isAgg4
  z4 := Tryz.sizeOf4
  v4 := Tryz.zeroValue4
  t5 := Tryz.underlying5
  a5 := Tryz.isAgg5
  z5 := Tryz.sizeOf5
  v5 := Tryz.zeroValue5
  t9 := Tryz.underlying9
  a9 := Tryz.isAgg9
  z9 := Tryz.sizeOf9
  v9 := Tryz.zeroValue9
  t46 := Tryz.underlying126
  a46 := Tryz.isAgg126
  z46 := Tryz.sizeOf126
  v46 := Tryz.zeroValue126
  t51 := Tryz.underlying186
  a51 := Tryz.isAgg186
  z51 := Tryz.sizeOf186
  v51 := Tryz.zeroValue186
  t146 := Tryz.underlying187
  a146 := Tryz.isAgg187
  z146 := Tryz.sizeOf187
  v146 := Tryz.zeroValue187
  g1 := by kernel_rfl
  i3 := by kernel_rfl
  i4 := by kernel_rfl
  i5 := by kernel_rfl
  i9 := by kernel_rfl
  i46 := by kernel_rfl
  i51 := by kernel_rfl
  i146 := by kernel_rfl
  m1 := by kernel_rfl
  s1_3 := fun w h => Go.Proofs.cell_of_shapedOpen_int (zero := #[.int .i64 0]) (t := 3) h (of_decide_eq_true (by kernel_rfl)) (by kernel_rfl) rfl (by kernel_rfl) (by kernel_rfl) Tryz.underlying3 }
open Go.RowKit Go.Lib in
theorem Tryz.stringslite_Cut_shaped (s sep : ByteArray) (w : World) (h : w.ShapedOpen Tryz.prog) (hs : s.size < 4294967281) :
    Calls Tryz.prog 164 #[.string s, .string sep] w fun e w' => e = .returned (.tuple #[.string ⟨(Lib.cut s.data.toList sep.data.toList).1.toArray⟩, .string ⟨(Lib.cut s.data.toList sep.data.toList).2.1.toArray⟩, .bool (Lib.cut s.data.toList sep.data.toList).2.2]) ∧ ∃ n, w' = w.drewN n := Any.stringslite_Cut_shaped Tryz.laysM220 s sep w h hs
def Tryz.laysM145_ren : Go.Shelf.Ren := ⟨fun | 145 => 154 | 220 => 164 | 219 => 124 | 217 => 138 | 225 => 139 | 224 => 140 | 267 => 141 | 266 => 152 | 314 => 153 | n => n, fun | 9 => 9 | 4 => 4 | 59 => 172 | 3 => 3 | 5 => 5 | 46 => 126 | 146 => 187 | 51 => 186 | n => n, fun | 1 => 1 | n => n⟩
theorem Tryz.laysM145 : Go.Proofs.LaysM.n145 Tryz.prog Tryz.laysM145_ren := {
  mixed := by kernel_rfl
  f145 := Tryz.func154.trans (congrArg some (by kernel_rfl))
  f217 := Tryz.func138.trans (congrArg some (by kernel_rfl))
  f219 := Tryz.func124.trans (congrArg some (by kernel_rfl))
  f220 := Tryz.func164.trans (congrArg some (by kernel_rfl))
  f224 := Tryz.func140.trans (congrArg some (by kernel_rfl))
  f225 := Tryz.func139.trans (congrArg some (by kernel_rfl))
  f266 := Tryz.func152.trans (congrArg some (by kernel_rfl))
  f267 := Tryz.func141.trans (congrArg some (by kernel_rfl))
  f314 := Tryz.func153.trans (congrArg some (by kernel_rfl))
  t3 := Tryz.underlying3
  a3 := Tryz.isAgg3
  z3 := Tryz.sizeOf3
  v3 := Tryz.zeroValue3
  t4 := Tryz.underlying4
  a4 := Tryz.isAgg4
  z4 := Tryz.sizeOf4
  v4 := Tryz.zeroValue4
  t5 := Tryz.underlying5
  a5 := Tryz.isAgg5
  z5 := Tryz.sizeOf5
  v5 := Tryz.zeroValue5
  t9 := Tryz.underlying9
  a9 := Tryz.isAgg9
  z9 := Tryz.sizeOf9
  v9 := Tryz.zeroValue9
  t46 := Tryz.underlying126
  a46 := Tryz.isAgg126
  z46 := Tryz.sizeOf126
  v46 := Tryz.zeroValue126
  t51 := Tryz.underlying186
  a51 := Tryz.isAgg186
  z51 := Tryz.sizeOf186
  v51 := Tryz.zeroValue186
  t59 := Tryz.underlying172
  a59 := Tryz.isAgg172
  z59 := Tryz.sizeOf172
  v59 := Tryz.zeroValue172
  t146 := Tryz.underlying187
  a146 := Tryz.isAgg187
  z146 := Tryz.sizeOf187
  v146 := Tryz.zeroValue187
  g1 := by kernel_rfl
  i3 := by kernel_rfl
  i4 := by kernel_rfl
  i5 := by kernel_rfl
  i9 := by kernel_rfl
  i46 := by kernel_rfl
  i51 := by kernel_rfl
  i59 := by kernel_rfl
  i146 := by kernel_rfl
  m1 := by kernel_rfl
  s1_3 := fun w h => Go.Proofs.cell_of_shapedOpen_int (zero := #[.int .i64 0]) (t := 3) h (of_decide_eq_true (by kernel_rfl)) (by kernel_rfl) rfl (by kernel_rfl) (by kernel_rfl) Tryz.underlying3 }
open Go.RowKit Go.Lib in
theorem Tryz.strings_Cut_shaped (s sep : ByteArray) (w : World) (h : w.ShapedOpen Tryz.prog) (hs : s.size < 4294967281) :
    Calls Tryz.prog 154 #[.string s, .string sep] w fun e w' => e = .returned (.tuple #[.string ⟨(Lib.cut s.data.toList sep.data.toList).1.toArray⟩, .string ⟨(Lib.cut s.data.toList sep.data.toList).2.1.toArray⟩, .bool (Lib.cut s.data.toList sep.data.toList).2.2]) ∧ ∃ n, w' = w.drewN n := Any.strings_Cut_shaped Tryz.laysM145 s sep w h hs
def Tryz.laysM138_ren : Go.Shelf.Ren := ⟨fun | 138 => 109 | 195 => 121 | 218 => 123 | 143 => 110 | 219 => 124 | 217 => 138 | 225 => 139 | 224 => 140 | 267 => 141 | 266 => 152 | 314 => 153 | n => n, fun | 9 => 9 | 3 => 3 | 4 => 4 | 5 => 5 | 0 => 0 | 46 => 126 | 146 => 187 | 51 => 186 | n => n, fun | 1 => 1 | n => n⟩
theorem Tryz.laysM138 : Go.Proofs.LaysM.n138 Tryz.prog Tryz.laysM138_ren := {
  mixed := by kernel_rfl
  f138 := Tryz.func109.trans (congrArg some (by kernel_rfl))
  f143 := Tryz.func110.trans (congrArg some (by kernel_rfl))
  f195 := Tryz.func121.trans (congrArg some (by kernel_rfl))
  f217 := Tryz.func138.trans (congrArg some (by kernel_rfl))
  f218 := Tryz.func123.trans (congrArg some (by kernel_rfl))
  f219 := Tryz.func124.trans (congrArg some (by kernel_rfl))
  f224 := Tryz.func140.trans (congrArg some (by kernel_rfl))
  f225 := Tryz.func139.trans (congrArg some (by kernel_rfl))
  f266 := Tryz.func152.trans (congrArg some (by kernel_rfl))
  f267 := Tryz.func141.trans (congrArg some (by kernel_rfl))
  f314 := Tryz.func153.trans (congrArg some (by kernel_rfl))
  t0 := Tryz.underlying0
  a0 := Tryz.isAgg0
  z0 := Tryz.sizeOf0
  v0 := Tryz.zeroValue0
  t3 := Tryz.underlying3
  a3 := Tryz.isAgg3
  z3 := Tryz.sizeOf3
  v3 := Tryz.zeroValue3
  t4 := Tryz.underlying4
  a4 := Tryz.isAgg4
  z4 := Tryz.sizeOf4
  v4 := Tryz.zeroValue4
  t5 := Tryz.underlying5
  a5 := Tryz.isAgg5
  z5 := Tryz.sizeOf5
  v5 := Tryz.zeroValue5
  t9 := Tryz.underlying9
  a9 := Tryz.isAgg9
  z9 := Tryz.sizeOf9
  v9 := Tryz.zeroValue9
  t46 := Tryz.underlying126
  a46 := Tryz.isAgg126
  z46 := Tryz.sizeOf126
  v46 := Tryz.zeroValue126
  t51 := Tryz.underlying186
  a51 := Tryz.isAgg186
  z51 := Tryz.sizeOf186
  v51 := Tryz.zeroValue186
  t146 := Tryz.underlying187
  a146 := Tryz.isAgg187
  z146 := Tryz.sizeOf187
  v146 := Tryz.zeroValue187
  g1 := by kernel_rfl
  i0 := by kernel_rfl
  i3 := by kernel_rfl
  i4 := by kernel_rfl
  i5 := by kernel_rfl
  i9 := by kernel_rfl
  i46 := by kernel_rfl
  i51 := by kernel_rfl
  i146 := by kernel_rfl
  m1 := by kernel_rfl
  s1_3 := fun w h => Go.Proofs.cell_of_shapedOpen_int (zero := #[.int .i64 0]) (t := 3) h (of_decide_eq_true (by kernel_rfl)) (by kernel_rfl) rfl (by kernel_rfl) (by kernel_rfl) Tryz.underlying3 }
open Go.RowKit Go.Lib in
theorem Tryz.strings_Count_shaped (s sub : ByteArray) (w : World) (h : w.ShapedOpen Tryz.prog) (hs : s.size < 4294967281) (h2 : 2 ≤ sub.size) :
    Calls Tryz.prog 109 #[.string s, .string sub] w fun e w' => e = .returned (.int .i64 (Lib.countB s sub)) ∧ w' = w := Any.strings_Count_shaped Tryz.laysM138 s sub w h hs h2
def Tryz.lays206_ren : Go.Shelf.Ren := ⟨fun | 206 => 147 | n => n, fun | 9 => 9 | 4 => 4 | 3 => 3 | n => n, fun | n => n⟩
theorem Tryz.lays206 : Go.Proofs.Lays.n206 Tryz.prog Tryz.lays206_ren := {
  mixed := by kernel_rfl
  f206 := Tryz.func147.trans (congrArg some (by kernel_rfl))
  t3 := Tryz.underlying3
  a3 := Tryz.isAgg3
  z3 := Tryz.sizeOf3
  v3 := Tryz.zeroValue3
  t4 := Tryz.underlying4
  a4 := Tryz.isAgg4
  z4 := Tryz.sizeOf4
  v4 := Tryz.zeroValue4
  t9 := Tryz.underlying9
  a9 := Tryz.isAgg9
  z9 := Tryz.sizeOf9
  v9 := Tryz.zeroValue9 }
open Go.RowKit Go.Lib in
/-- internal/stringslite.HasPrefix (what strings.HasPrefix calls). (LAID: no walk: one application.) -/
theorem Tryz.stringslite_HasPrefix (s p : ByteArray) (w : World) :
    Calls Tryz.prog 147 #[.string s, .string p] w fun e w' => e = .returned (.bool (Lib.hasPrefix s.data.toList p.data.toList)) ∧ w' = w := Any.stringslite_HasPrefix Tryz.lays206 s p w
def Tryz.lays99_ren : Go.Shelf.Ren := ⟨fun | 99 => 129 | 206 => 147 | n => n, fun | 9 => 9 | 4 => 4 | 3 => 3 | n => n, fun | n => n⟩
theorem Tryz.lays99 : Go.Proofs.Lays.n99 Tryz.prog Tryz.lays99_ren := {
  mixed := by kernel_rfl
  f99 := Tryz.func129.trans (congrArg some (by kernel_rfl))
  f206 := Tryz.func147.trans (congrArg some (by kernel_rfl))
  t3 := Tryz.underlying3
  a3 := Tryz.isAgg3
  z3 := Tryz.sizeOf3
  v3 := Tryz.zeroValue3
  t4 := Tryz.underlying4
  a4 := Tryz.isAgg4
  z4 := Tryz.sizeOf4
  v4 := Tryz.zeroValue4
  t9 := Tryz.underlying9
  a9 := Tryz.isAgg9
  z9 := Tryz.sizeOf9
  v9 := Tryz.zeroValue9 }
open Go.RowKit Go.Lib in
/-- strings.HasPrefix: "HasPrefix reports whether the string s begins with prefix.": IT RETURNS 'Lib.hasPrefix s prefix'; the world is as it was. (LAID: no walk: one application.) -/
theorem Tryz.strings_HasPrefix (s p : ByteArray) (w : World) :
    Calls Tryz.prog 129 #[.string s, .string p] w fun e w' => e = .returned (.bool (Lib.hasPrefix s.data.toList p.data.toList)) ∧ w' = w := Any.strings_HasPrefix Tryz.lays99 s p w
open Go.RowKit Go.Lib in
/-- strings.Count at whatever sep that is not empty: the two roads under one statement. (LAID: no walk: one application.) -/
theorem Tryz.strings_Count_any (s sep : ByteArray) (m : Int) (w : World) (hs : s.size < 4294967281) (hm : w.cell? ⟨1, 0, none⟩ = some (.int .i64 m)) (h1 : 1 ≤ sep.size) :
    Calls Tryz.prog 109 #[.string s, .string sep] w fun e w' => e = .returned (.int .i64 (Lib.countB s sep)) ∧ w' = w := Any.strings_Count_any Tryz.lays138 s sep m w hs hm h1
def Tryz.lays221_ren : Go.Shelf.Ren := ⟨fun | 221 => 89 | 268 => 108 | 138 => 109 | 143 => 110 | 195 => 121 | 197 => 122 | 218 => 123 | 219 => 124 | 260 => 137 | 217 => 138 | 225 => 139 | 224 => 140 | 267 => 141 | 266 => 152 | 314 => 153 | n => n, fun | 9 => 9 | 3 => 3 | 31 => 77 | 4 => 4 | 0 => 0 | 105 => 165 | 21 => 21 | 5 => 5 | 46 => 126 | 119 => 182 | 139 => 185 | 138 => 184 | 146 => 187 | 51 => 186 | n => n, fun | 1 => 1 | 3 => 2 | 4 => 3 | n => n⟩
theorem Tryz.lays221 : Go.Proofs.Lays.n221 Tryz.prog Tryz.lays221_ren := {
  mixed := by kernel_rfl
  f138 := Tryz.func109.trans (congrArg some (by kernel_rfl))
  f143 := Tryz.func110.trans (congrArg some (by kernel_rfl))
  f195 := Tryz.func121.trans (congrArg some (by kernel_rfl))
  f197 := Tryz.func122.trans (congrArg some (by kernel_rfl))
  f217 := Tryz.func138.trans (congrArg some (by kernel_rfl))
  f218 := Tryz.func123.trans (congrArg some (by kernel_rfl))
  f219 := Tryz.func124.trans (congrArg some (by kernel_rfl))
  f221 := Tryz.func89.trans (congrArg some (by kernel_rfl))
  f224 := Tryz.func140.trans (congrArg some (by kernel_rfl))
  f225 := Tryz.func139.trans (congrArg some (by kernel_rfl))
  f260 := Tryz.func137.trans (congrArg some (by kernel_rfl))
  f266 := Tryz.func152.trans (congrArg some (by kernel_rfl))
  f267 := Tryz.func141.trans (congrArg some (by kernel_rfl))
  f268 := Tryz.func108.trans (congrArg some (by kernel_rfl))
  f314 := Tryz.func153.trans (congrArg some (by kernel_rfl))
  t0 := Tryz.underlying0
  a0 := Tryz.isAgg0
  z0 := Tryz.sizeOf0
  v0 := Tryz.zeroValue0
  t3 := Tryz.underlying3
  a3 := Tryz.isAgg3
  z3 := Tryz.sizeOf3
  v3 := Tryz.zeroValue3
  t4 := Tryz.underlying4
  a4 := Tryz.isAgg4
  z4 := Tryz.sizeOf4
  v4 := Tryz.zeroValue4
  t5 := Tryz.underlying5
  a5 := Tryz.isAgg5
  z5 := Tryz.sizeOf5
  v5 := Tryz.zeroValue5
  t9 := Tryz.underlying9
  a9 := Tryz.isAgg9
  z9 := Tryz.sizeOf9
  v9 := Tryz.zeroValue9
  t21 := Tryz.underlying21
  a21 := Tryz.isAgg21
  z21 := Tryz.sizeOf21
  v21 := Tryz.zeroValue21
  t31 := Tryz.underlying77
  a31 := Tryz.isAgg77
  z31 := Tryz.sizeOf77
  v31 := Tryz.zeroValue77
  t46 := Tryz.underlying126
  a46 := Tryz.isAgg126
  z46 := Tryz.sizeOf126
  v46 := Tryz.zeroValue126
  t51 := Tryz.underlying186
  a51 := Tryz.isAgg186
  z51 := Tryz.sizeOf186
  v51 := Tryz.zeroValue186
  t105 := Tryz.underlying165
  a105 := Tryz.isAgg165
  z105 := Tryz.sizeOf165
  v105 := Tryz.zeroValue165
  t119 := Tryz.underlying182
  a119 := Tryz.isAgg182
  z119 := Tryz.sizeOf182
  t138 := Tryz.underlying184
  a138 := Tryz.isAgg184
  z138 := Tryz.sizeOf184
  v138 := Tryz.zeroValue184
  t139 := Tryz.underlying185
  a139 := Tryz.isAgg185
  z139 := Tryz.sizeOf185
  v139 := Tryz.zeroValue185
  t146 := Tryz.underlying187
  a146 := Tryz.isAgg187
  z146 := Tryz.sizeOf187
  v146 := Tryz.zeroValue187
  g1 := by kernel_rfl
  g3 := by kernel_rfl
  g4 := by kernel_rfl }
open Go.RowKit Go.Lib in
theorem Tryz.strings_genSplit (s sep : ByteArray) (sv : Nat) (n : Int) (N : Nat) (m : Int) (w : World) (hs : s.size < 4294967281) (hm : w.cell? ⟨1, 0, none⟩ = some (.int .i64 m)) (h1 : 1 ≤ sep.size) (hsv : sv ≤ sep.size) (hn0 : n ≠ 0) (hn63 : n ≤ 9223372036854775807) (hN : (N : Int) = min (if n < 0 then (Lib.countB s sep : Int) + 1 else n) ((s.size : Int) + 1)) :
    Calls Tryz.prog 89 #[.string s, .string sep, .int .i64 sv, .int .i64 n] w fun e w' =>
      e = .returned (.slice (some ⟨w.heap.size, 0, none⟩) (Lib.splitB sep sv (N - 1) s).length N) ∧ w' = w.alloc (.cells (Lib.cellsOf (Lib.splitB sep sv (N - 1) s) N) 9) := Any.strings_genSplit Tryz.lays221 (by kernel_rfl) s sep sv n N m w hs hm h1 hsv hn0 hn63 hN
def Tryz.lays146_ren : Go.Shelf.Ren := ⟨fun | 146 => 71 | 221 => 89 | 268 => 108 | 138 => 109 | 143 => 110 | 195 => 121 | 197 => 122 | 218 => 123 | 219 => 124 | 260 => 137 | 217 => 138 | 225 => 139 | 224 => 140 | 267 => 141 | 266 => 152 | 314 => 153 | n => n, fun | 9 => 9 | 31 => 77 | 3 => 3 | 4 => 4 | 0 => 0 | 105 => 165 | 21 => 21 | 5 => 5 | 46 => 126 | 119 => 182 | 139 => 185 | 138 => 184 | 146 => 187 | 51 => 186 | n => n, fun | 1 => 1 | 3 => 2 | 4 => 3 | n => n⟩
theorem Tryz.lays146 : Go.Proofs.Lays.n146 Tryz.prog Tryz.lays146_ren := {
  mixed := by kernel_rfl
  f138 := Tryz.func109.trans (congrArg some (by kernel_rfl))
  f143 := Tryz.func110.trans (congrArg some (by kernel_rfl))
  f146 := Tryz.func71.trans (congrArg some (by kernel_rfl))
  f195 := Tryz.func121.trans (congrArg some (by kernel_rfl))
  f197 := Tryz.func122.trans (congrArg some (by kernel_rfl))
  f217 := Tryz.func138.trans (congrArg some (by kernel_rfl))
  f218 := Tryz.func123.trans (congrArg some (by kernel_rfl))
  f219 := Tryz.func124.trans (congrArg some (by kernel_rfl))
  f221 := Tryz.func89.trans (congrArg some (by kernel_rfl))
  f224 := Tryz.func140.trans (congrArg some (by kernel_rfl))
  f225 := Tryz.func139.trans (congrArg some (by kernel_rfl))
  f260 := Tryz.func137.trans (congrArg some (by kernel_rfl))
  f266 := Tryz.func152.trans (congrArg some (by kernel_rfl))
  f267 := Tryz.func141.trans (congrArg some (by kernel_rfl))
  f268 := Tryz.func108.trans (congrArg some (by kernel_rfl))
  f314 := Tryz.func153.trans (congrArg some (by kernel_rfl))
  t0 := Tryz.underlying0
  a0 := Tryz.isAgg0
  z0 := Tryz.sizeOf0
  v0 := Tryz.zeroValue0
  t3 := Tryz.underlying3
  a3 := Tryz.isAgg3
  z3 := Tryz.sizeOf3
  v3 := Tryz.zeroValue3
  t4 := Tryz.underlying4
  a4 := Tryz.isAgg4
  z4 := Tryz.sizeOf4
  v4 := Tryz.zeroValue4
  t5 := Tryz.underlying5
  a5 := Tryz.isAgg5
  z5 := Tryz.sizeOf5
  v5 := Tryz.zeroValue5
  t9 := Tryz.underlying9
  a9 := Tryz.isAgg9
  z9 := Tryz.sizeOf9
  v9 := Tryz.zeroValue9
  t21 := Tryz.underlying21
  a21 := Tryz.isAgg21
  z21 := Tryz.sizeOf21
  v21 := Tryz.zeroValue21
  t31 := Tryz.underlying77
  a31 := Tryz.isAgg77
  z31 := Tryz.sizeOf77
  v31 := Tryz.zeroValue77
  t46 := Tryz.underlying126
  a46 := Tryz.isAgg126
  z46 := Tryz.sizeOf126
  v46 := Tryz.zeroValue126
  t51 := Tryz.underlying186
  a51 := Tryz.isAgg186
  z51 := Tryz.sizeOf186
  v51 := Tryz.zeroValue186
  t105 := Tryz.underlying165
  a105 := Tryz.isAgg165
  z105 := Tryz.sizeOf165
  v105 := Tryz.zeroValue165
  t119 := Tryz.underlying182
  a119 := Tryz.isAgg182
  z119 := Tryz.sizeOf182
  t138 := Tryz.underlying184
  a138 := Tryz.isAgg184
  z138 := Tryz.sizeOf184
  v138 := Tryz.zeroValue184
  t139 := Tryz.underlying185
  a139 := Tryz.isAgg185
  z139 := Tryz.sizeOf185
  v139 := Tryz.zeroValue185
  t146 := Tryz.underlying187
  a146 := Tryz.isAgg187
  z146 := Tryz.sizeOf187
  v146 := Tryz.zeroValue187
  g1 := by kernel_rfl
  g3 := by kernel_rfl
  g4 := by kernel_rfl }
open Go.RowKit Go.Lib in
/-- strings.Split. (LAID: no walk: one application.) -/
theorem Tryz.strings_Split (s sep : ByteArray) (m : Int) (w : World) (hs : s.size < 4294967281) (hm : w.cell? ⟨1, 0, none⟩ = some (.int .i64 m)) (h1 : 1 ≤ sep.size) :
    Calls Tryz.prog 71 #[.string s, .string sep] w fun e w' =>
      e = .returned (.slice (some ⟨w.heap.size, 0, none⟩) (Lib.countB s sep + 1) (Lib.countB s sep + 1)) ∧ w' = w.alloc (.cells ((Lib.splitB sep 0 (Lib.countB s sep) s).map Value.string).toArray 9) := Any.strings_Split Tryz.lays146 (by kernel_rfl) s sep m w hs hm h1
def Tryz.laysM146_ren : Go.Shelf.Ren := ⟨fun | 146 => 71 | 221 => 89 | 268 => 108 | 138 => 109 | 143 => 110 | 195 => 121 | 197 => 122 | 218 => 123 | 219 => 124 | 260 => 137 | 217 => 138 | 225 => 139 | 224 => 140 | 267 => 141 | 266 => 152 | 314 => 153 | n => n, fun | 9 => 9 | 31 => 77 | 3 => 3 | 4 => 4 | 0 => 0 | 105 => 165 | 21 => 21 | 5 => 5 | 46 => 126 | 119 => 182 | 139 => 185 | 138 => 184 | 146 => 187 | 51 => 186 | n => n, fun | 1 => 1 | 3 => 2 | 4 => 3 | n => n⟩
theorem Tryz.laysM146 : Go.Proofs.LaysM.n146 Tryz.prog Tryz.laysM146_ren := {
  mixed := by kernel_rfl
  f138 := Tryz.func109.trans (congrArg some (by kernel_rfl))
  f143 := Tryz.func110.trans (congrArg some (by kernel_rfl))
  f146 := Tryz.func71.trans (congrArg some (by kernel_rfl))
  f195 := Tryz.func121.trans (congrArg some (by kernel_rfl))
  f197 := Tryz.func122.trans (congrArg some (by kernel_rfl))
  f217 := Tryz.func138.trans (congrArg some (by kernel_rfl))
  f218 := Tryz.func123.trans (congrArg some (by kernel_rfl))
  f219 := Tryz.func124.trans (congrArg some (by kernel_rfl))
  f221 := Tryz.func89.trans (congrArg some (by kernel_rfl))
  f224 := Tryz.func140.trans (congrArg some (by kernel_rfl))
  f225 := Tryz.func139.trans (congrArg some (by kernel_rfl))
  f260 := Tryz.func137.trans (congrArg some (by kernel_rfl))
  f266 := Tryz.func152.trans (congrArg some (by kernel_rfl))
  f267 := Tryz.func141.trans (congrArg some (by kernel_rfl))
  f268 := Tryz.func108.trans (congrArg some (by kernel_rfl))
  f314 := Tryz.func153.trans (congrArg some (by kernel_rfl))
  t0 := Tryz.underlying0
  a0 := Tryz.isAgg0
  z0 := Tryz.sizeOf0
  v0 := Tryz.zeroValue0
  t3 := Tryz.underlying3
  a3 := Tryz.isAgg3
  z3 := Tryz.sizeOf3
  v3 := Tryz.zeroValue3
  t4 := Tryz.underlying4
  a4 := Tryz.isAgg4
  z4 := Tryz.sizeOf4
  v4 := Tryz.zeroValue4
  t5 := Tryz.underlying5
  a5 := Tryz.isAgg5
  z5 := Tryz.sizeOf5
  v5 := Tryz.zeroValue5
  t9 := Tryz.underlying9
  a9 := Tryz.isAgg9
  z9 := Tryz.sizeOf9
  v9 := Tryz.zeroValue9
  t21 := Tryz.underlying21
  a21 := Tryz.isAgg21
  z21 := Tryz.sizeOf21
  v21 := Tryz.zeroValue21
  t31 := Tryz.underlying77
  a31 := Tryz.isAgg77
  z31 := Tryz.sizeOf77
  v31 := Tryz.zeroValue77
  t46 := Tryz.underlying126
  a46 := Tryz.isAgg126
  z46 := Tryz.sizeOf126
  v46 := Tryz.zeroValue126
  t51 := Tryz.underlying186
  a51 := Tryz.isAgg186
  z51 := Tryz.sizeOf186
  v51 := Tryz.zeroValue186
  t105 := Tryz.underlying165
  a105 := Tryz.isAgg165
  z105 := Tryz.sizeOf165
  v105 := Tryz.zeroValue165
  t119 := Tryz.underlying182
  a119 := Tryz.isAgg182
  z119 := Tryz.sizeOf182
  t138 := Tryz.underlying184
  a138 := Tryz.isAgg184
  z138 := Tryz.sizeOf184
  v138 := Tryz.zeroValue184
  t139 := Tryz.underlying185
  a139 := Tryz.isAgg185
  z139 := Tryz.sizeOf185
  v139 := Tryz.zeroValue185
  t146 := Tryz.underlying187
  a146 := Tryz.isAgg187
  z146 := Tryz.sizeOf187
  v146 := Tryz.zeroValue187
  g1 := by kernel_rfl
  g3 := by kernel_rfl
  g4 := by kernel_rfl
  i0 := by kernel_rfl
  i3 := by kernel_rfl
  i4 := by kernel_rfl
  i5 := by kernel_rfl
  i9 := by kernel_rfl
  i21 := by kernel_rfl
  i31 := by kernel_rfl
  i46 := by kernel_rfl
  i51 := by kernel_rfl
  i105 := by kernel_rfl
  i138 := by kernel_rfl
  i139 := by kernel_rfl
  i146 := by kernel_rfl
  m1 := by kernel_rfl
  s1_3 := fun w h => Go.Proofs.cell_of_shapedOpen_int (zero := #[.int .i64 0]) (t := 3) h (of_decide_eq_true (by kernel_rfl)) (by kernel_rfl) rfl (by kernel_rfl) (by kernel_rfl) Tryz.underlying3
  m3 := by kernel_rfl
  m4 := by kernel_rfl }
open Go.RowKit Go.Lib in
/-- strings.Split, sep not empty. (LAID: no walk: one application.) -/
theorem Tryz.strings_Split_shaped (s sep : ByteArray) (w : World) (h : w.ShapedOpen Tryz.prog) (hs : s.size < 4294967281) (h1 : 1 ≤ sep.size) :
    Calls Tryz.prog 71 #[.string s, .string sep] w fun e w' =>
      e = .returned (.slice (some ⟨w.heap.size, 0, none⟩) (Lib.countB s sep + 1) (Lib.countB s sep + 1)) ∧ w' = w.alloc (.cells ((Lib.splitB sep 0 (Lib.countB s sep) s).map Value.string).toArray 9) := Any.strings_Split_shaped Tryz.laysM146 s sep w h hs h1
def Tryz.lays264_ren : Go.Shelf.Ren := ⟨fun | 264 => 166 | n => n, fun | 53 => 204 | 46 => 126 | n => n, fun | n => n⟩
theorem Tryz.lays264 : Go.Proofs.Lays.n264 Tryz.prog Tryz.lays264_ren := {
  mixed := by kernel_rfl
  f264 := Tryz.func166.trans (congrArg some (by kernel_rfl))
  t46 := Tryz.underlying126
  a46 := Tryz.isAgg126
  z46 := Tryz.sizeOf126
  v46 := Tryz.zeroValue126
  t53 := Tryz.underlying204
  a53 := Tryz.isAgg204
  z53 := Tryz.sizeOf204
  v53 := Tryz.zeroValue204 }
open Go.RowKit Go.Lib in
theorem Tryz.bits_Mul64 (x y : Nat) (hx : x < 18446744073709551616) (hy : y < 18446744073709551616) (w : World) :
    Calls Tryz.prog 166 #[.int .u64 x, .int .u64 y] w fun e w' => e = .returned (.tuple #[.int .u64 ((x * y / 18446744073709551616 : Nat) : Int), .int .u64 ((x * y % 18446744073709551616 : Nat) : Int)]) ∧ w' = w := Any.bits_Mul64 Tryz.lays264 x y hx hy w
def Tryz.lays212_ren : Go.Shelf.Ren := ⟨fun | 212 => 159 | 263 => 165 | 264 => 166 | n => n, fun | 46 => 126 | 51 => 186 | 146 => 187 | 53 => 204 | 148 => 205 | n => n, fun | n => n⟩
theorem Tryz.lays212 : Go.Proofs.Lays.n212 Tryz.prog Tryz.lays212_ren := {
  mixed := by kernel_rfl
  f212 := Tryz.func159.trans (congrArg some (by kernel_rfl))
  f263 := Tryz.func165.trans (congrArg some (by kernel_rfl))
  f264 := Tryz.func166.trans (congrArg some (by kernel_rfl))
  t46 := Tryz.underlying126
  a46 := Tryz.isAgg126
  z46 := Tryz.sizeOf126
  v46 := Tryz.zeroValue126
  t51 := Tryz.underlying186
  a51 := Tryz.isAgg186
  z51 := Tryz.sizeOf186
  v51 := Tryz.zeroValue186
  t53 := Tryz.underlying204
  a53 := Tryz.isAgg204
  z53 := Tryz.sizeOf204
  v53 := Tryz.zeroValue204
  t146 := Tryz.underlying187
  a146 := Tryz.isAgg187
  z146 := Tryz.sizeOf187
  v146 := Tryz.zeroValue187
  t148 := Tryz.underlying205
  a148 := Tryz.isAgg205
  z148 := Tryz.sizeOf205
  v148 := Tryz.zeroValue205 }
open Go.RowKit Go.Lib in
/-- math/bits.Mul: "Mul returns the full-width product of x and y": on a machine of 64 bits: Mul64's. (LAID: no walk: one application.) -/
theorem Tryz.bits_Mul (x y : Nat) (hx : x < 18446744073709551616) (hy : y < 18446744073709551616) (w : World) :
    Calls Tryz.prog 159 #[.int .u64 x, .int .u64 y] w fun e w' => e = .returned (.tuple #[.int .u64 ((x * y / 18446744073709551616 : Nat) : Int), .int .u64 ((x * y % 18446744073709551616 : Nat) : Int)]) ∧ w' = w := Any.bits_Mul Tryz.lays212 x y hx hy w
def Tryz.lays105_ren : Go.Shelf.Ren := ⟨fun | 105 => 150 | 212 => 159 | 99 => 129 | 165 => 160 | 166 => 161 | 170 => 162 | 169 => 163 | 263 => 165 | 264 => 166 | 206 => 147 | 240 => 167 | 241 => 168 | 276 => 169 | 277 => 170 | n => n, fun | 9 => 9 | 3 => 3 | 4 => 4 | 20 => 20 | 0 => 0 | 46 => 126 | 109 => 191 | 5 => 5 | 72 => 195 | 76 => 199 | 51 => 186 | 146 => 187 | 53 => 204 | 148 => 205 | 70 => 193 | 37 => 22 | 75 => 198 | 127 => 207 | 164 => 208 | 80 => 202 | n => n, fun | n => n⟩
theorem Tryz.lays105 : Go.Proofs.Lays.n105 Tryz.prog Tryz.lays105_ren := {
  mixed := by kernel_rfl
  f99 := Tryz.func129.trans (congrArg some (by kernel_rfl))
  f105 := Tryz.func150.trans (congrArg some (by kernel_rfl))
  f165 := Tryz.func160.trans (congrArg some (by kernel_rfl))
  f166 := Tryz.func161.trans (congrArg some (by kernel_rfl))
  f169 := Tryz.func163.trans (congrArg some (by kernel_rfl))
  f170 := Tryz.func162.trans (congrArg some (by kernel_rfl))
  f206 := Tryz.func147.trans (congrArg some (by kernel_rfl))
  f212 := Tryz.func159.trans (congrArg some (by kernel_rfl))
  f240 := Tryz.func167.trans (congrArg some (by kernel_rfl))
  f241 := Tryz.func168.trans (congrArg some (by kernel_rfl))
  f263 := Tryz.func165.trans (congrArg some (by kernel_rfl))
  f264 := Tryz.func166.trans (congrArg some (by kernel_rfl))
  f276 := Tryz.func169.trans (congrArg some (by kernel_rfl))
  f277 := Tryz.func170.trans (congrArg some (by kernel_rfl))
  t0 := Tryz.underlying0
  a0 := Tryz.isAgg0
  z0 := Tryz.sizeOf0
  v0 := Tryz.zeroValue0
  t3 := Tryz.underlying3
  a3 := Tryz.isAgg3
  z3 := Tryz.sizeOf3
  v3 := Tryz.zeroValue3
  t4 := Tryz.underlying4
  a4 := Tryz.isAgg4
  z4 := Tryz.sizeOf4
  v4 := Tryz.zeroValue4
  t5 := Tryz.underlying5
  a5 := Tryz.isAgg5
  z5 := Tryz.sizeOf5
  v5 := Tryz.zeroValue5
  t9 := Tryz.underlying9
  a9 := Tryz.isAgg9
  z9 := Tryz.sizeOf9
  v9 := Tryz.zeroValue9
  t20 := Tryz.underlying20
  a20 := Tryz.isAgg20
  z20 := Tryz.sizeOf20
  v20 := Tryz.zeroValue20
  t37 := Tryz.underlying22
  a37 := Tryz.isAgg22
  z37 := Tryz.sizeOf22
  v37 := Tryz.zeroValue22
  t46 := Tryz.underlying126
  a46 := Tryz.isAgg126
  z46 := Tryz.sizeOf126
  v46 := Tryz.zeroValue126
  t51 := Tryz.underlying186
  a51 := Tryz.isAgg186
  z51 := Tryz.sizeOf186
  v51 := Tryz.zeroValue186
  t53 := Tryz.underlying204
  a53 := Tryz.isAgg204
  z53 := Tryz.sizeOf204
  v53 := Tryz.zeroValue204
  t70 := Tryz.underlying193
  a70 := Tryz.isAgg193
  z70 := Tryz.sizeOf193
  v70 := Tryz.zeroValue193
  t72 := Tryz.underlying195
  a72 := Tryz.isAgg195
  z72 := Tryz.sizeOf195
  v72 := Tryz.zeroValue195
  t75 := Tryz.underlying198
  a75 := Tryz.isAgg198
  z75 := Tryz.sizeOf198
  v75 := Tryz.zeroValue198
  t76 := Tryz.underlying199
  a76 := Tryz.isAgg199
  z76 := Tryz.sizeOf199
  v76 := Tryz.zeroValue199
  t109 := Tryz.underlying191
  a109 := Tryz.isAgg191
  z109 := Tryz.sizeOf191
  v109 := Tryz.zeroValue191
  t127 := Tryz.underlying207
  a127 := Tryz.isAgg207
  z127 := Tryz.sizeOf207
  v127 := Tryz.zeroValue207
  t146 := Tryz.underlying187
  a146 := Tryz.isAgg187
  z146 := Tryz.sizeOf187
  v146 := Tryz.zeroValue187
  t148 := Tryz.underlying205
  a148 := Tryz.isAgg205
  z148 := Tryz.sizeOf205
  v148 := Tryz.zeroValue205
  t164 := Tryz.underlying208
  a164 := Tryz.isAgg208
  z164 := Tryz.sizeOf208
  v164 := Tryz.zeroValue208 }
theorem Tryz.Builder_Extra_105 : Builder.Extra Tryz.prog Tryz.lays105_ren := {
  sizeBuilder := by kernel_rfl
  liesBuilder := by kernel_rfl
  t5 := Tryz.underlying5
  a5 := Tryz.isAgg5
  z5 := Tryz.sizeOf5
  v5 := Tryz.zeroValue5
  infoByte := by kernel_rfl
  cellsByte := by kernel_rfl
  sizeByte := by kernel_rfl
  neB5 := by decide }
open Go.RowKit Go.Lib in
/-- THE MAIN CASE: at least two copies of a string that is not empty. (LAID: no walk: one application.) -/
theorem Tryz.strings_Repeat_main (s : ByteArray) (c : Nat) (w : World) (hc2 : 2 ≤ c) (hc : c ≤ 9223372036854775807) (hlen : s.size * c ≤ 140737488355328) (h0 : 0 < s.size) :
    Calls Tryz.prog 150 #[.string s, .int .i64 c] w fun e w' => e = .returned (.string ⟨(Lib.repeatL s.data.toList c).toArray⟩) ∧ Below w.heap.size w w' := Any.strings_Repeat_main Tryz.lays105 Tryz.Builder_Extra_105 s c w hc2 hc hlen h0
open Go.RowKit Go.Lib in
theorem Tryz.strings_Repeat_zero (s : ByteArray) (w : World) :
    Calls Tryz.prog 150 #[.string s, .int .i64 0] w fun e w' => e = .returned (.string ⟨#[]⟩) ∧ w' = w := Any.strings_Repeat_zero Tryz.lays105 s w
open Go.RowKit Go.Lib in
theorem Tryz.strings_Repeat_one (s : ByteArray) (w : World) :
    Calls Tryz.prog 150 #[.string s, .int .i64 1] w fun e w' => e = .returned (.string s) ∧ w' = w := Any.strings_Repeat_one Tryz.lays105 s w
open Go.RowKit Go.Lib in
/-- Copies of the empty string. (LAID: no walk: one application.) -/
theorem Tryz.strings_Repeat_empty (s : ByteArray) (c : Nat) (w : World) (hc2 : 2 ≤ c) (hc : c ≤ 9223372036854775807) (h0 : s.size = 0) :
    Calls Tryz.prog 150 #[.string s, .int .i64 c] w fun e w' => e = .returned (.string ⟨#[]⟩) ∧ w' = w := Any.strings_Repeat_empty Tryz.lays105 s c w hc2 hc h0
open Go.RowKit Go.Lib in
/-- count < 0: "It panics if count is negative". (LAID: no walk: one application.) -/
theorem Tryz.strings_Repeat_negative (s : ByteArray) (c : Int) (w : World) (hc : c < 0) :
    Calls Tryz.prog 150 #[.string s, .int .i64 c] w fun e w' => e = .panicked [{ v := repeatPanic Tryz.lays105_ren "strings: negative Repeat count", recovered := false }] ∧ w' = w := Any.strings_Repeat_negative Tryz.lays105 s c w hc
open Go.RowKit Go.Lib in
/-- len(s) * count is no int: ".. or if the result of (len(s) * count) overflows". (LAID: no walk: one application.) -/
theorem Tryz.strings_Repeat_overflow (s : ByteArray) (c : Nat) (w : World) (hc : c ≤ 9223372036854775807) (hs : s.size ≤ 9223372036854775807) (hbig : 9223372036854775807 < s.size * c) :
    Calls Tryz.prog 150 #[.string s, .int .i64 c] w fun e w' => e = .panicked [{ v := repeatPanic Tryz.lays105_ren "strings: Repeat output length overflow", recovered := false }] ∧ w' = w := Any.strings_Repeat_overflow Tryz.lays105 s c w hc hs hbig
open Go.RowKit Go.Lib in
/-- **strings.Repeat: count ≥ 0, the result within one allocation: count copies of s.** (LAID: no walk: one application.) -/
theorem Tryz.strings_Repeat (s : ByteArray) (c : Nat) (w : World) (hc : c ≤ 9223372036854775807) (hlen : s.size * c ≤ 140737488355328) :
    Calls Tryz.prog 150 #[.string s, .int .i64 c] w fun e w' => e = .returned (.string ⟨(Lib.repeatL s.data.toList c).toArray⟩) ∧ Below w.heap.size w w' := Any.strings_Repeat Tryz.lays105 Tryz.Builder_Extra_105 s c w hc hlen
def Tryz.lays260_ren : Go.Shelf.Ren := ⟨fun | 260 => 137 | n => n, fun | 9 => 9 | 21 => 21 | 3 => 3 | 4 => 4 | 5 => 5 | 119 => 182 | 0 => 0 | 46 => 126 | 139 => 185 | 138 => 184 | n => n, fun | 3 => 2 | 4 => 3 | n => n⟩
theorem Tryz.lays260 : Go.Proofs.Lays.n260 Tryz.prog Tryz.lays260_ren := {
  mixed := by kernel_rfl
  f260 := Tryz.func137.trans (congrArg some (by kernel_rfl))
  t0 := Tryz.underlying0
  a0 := Tryz.isAgg0
  z0 := Tryz.sizeOf0
  v0 := Tryz.zeroValue0
  t3 := Tryz.underlying3
  a3 := Tryz.isAgg3
  z3 := Tryz.sizeOf3
  v3 := Tryz.zeroValue3
  t4 := Tryz.underlying4
  a4 := Tryz.isAgg4
  z4 := Tryz.sizeOf4
  v4 := Tryz.zeroValue4
  t5 := Tryz.underlying5
  a5 := Tryz.isAgg5
  z5 := Tryz.sizeOf5
  v5 := Tryz.zeroValue5
  t9 := Tryz.underlying9
  a9 := Tryz.isAgg9
  z9 := Tryz.sizeOf9
  v9 := Tryz.zeroValue9
  t21 := Tryz.underlying21
  a21 := Tryz.isAgg21
  z21 := Tryz.sizeOf21
  v21 := Tryz.zeroValue21
  t46 := Tryz.underlying126
  a46 := Tryz.isAgg126
  z46 := Tryz.sizeOf126
  v46 := Tryz.zeroValue126
  t119 := Tryz.underlying182
  a119 := Tryz.isAgg182
  z119 := Tryz.sizeOf182
  t138 := Tryz.underlying184
  a138 := Tryz.isAgg184
  z138 := Tryz.sizeOf184
  v138 := Tryz.zeroValue184
  t139 := Tryz.underlying185
  a139 := Tryz.isAgg185
  z139 := Tryz.sizeOf185
  v139 := Tryz.zeroValue185
  g3 := by kernel_rfl
  g4 := by kernel_rfl }
open Go.RowKit Go.Lib in
theorem Tryz.utf8_decodeRuneInStringSlow (s : ByteArray) (w : World) (hT : Lib.Utf8Tabs 2 3 w) :
    Calls Tryz.prog 137 #[.string s] w fun e w' => e = .returned (.tuple #[.int .i32 (Lib.decodeGo s).1, .int .i64 (Lib.decodeGo s).2]) ∧ Below w.heap.size w w' := Any.utf8_decodeRuneInStringSlow Tryz.lays260 s w hT
end Go.Proofs

namespace Go.Proofs.YtnhigfkhdmkoeaaGreatDoor
open Go.RowKit
set_option linter.unusedVariables false

/- Texts parted at commas, as plain lists of bytes: the parts, byte by byte; joined again; no comma in a part. -/
/-- A text ahead of the first part. -/
def glue (x : List UInt8) : List (List UInt8) → List (List UInt8)
  | [] => [x]
  | p :: ps => (x ++ p) :: ps
/-- The parts between commas. -/
def partsL : List UInt8 → List (List UInt8)
  | [] => [[]]
  | c :: l => if c = 44 then [] :: partsL l else glue [c] (partsL l)
theorem partsL_ne : ∀ l, ∃ p ps, partsL l = p :: ps
  | [] => ⟨[], [], rfl⟩
  | c :: l => by
    obtain ⟨p, ps, h⟩ := partsL_ne l
    unfold partsL
    split
    · exact ⟨_, _, rfl⟩
    · rw [h]; exact ⟨_, _, rfl⟩
theorem glue_glue (x y : List UInt8) (L : List (List UInt8)) (h : ∃ p ps, L = p :: ps) : glue x (glue y L) = glue (x ++ y) L := by
  obtain ⟨p, ps, rfl⟩ := h
  simp [glue]
theorem glue_nil (L : List (List UInt8)) (h : ∃ p ps, L = p :: ps) : glue [] L = L := by
  obtain ⟨p, ps, rfl⟩ := h
  rfl
theorem splitK_parts : ∀ l : List UInt8, Lib.splitK [44] 0 (Lib.count l [44]) l = partsL l
  | [] => rfl
  | c :: l => by
    have ih := splitK_parts l
    by_cases hc : c = 44
    · subst hc
      have hix : Lib.index (44 :: l) [44] = 0 := by rw [Lib.index]; simp [List.isPrefixOf]
      rw [Lib.count_cons_eq, Nat.add_comm 1, Lib.splitK, hix, partsL, if_pos rfl, if_neg (by decide), ← ih]
      rfl
    · have hp : ([44] : List UInt8).isPrefixOf (c :: l) = false := by simp [List.isPrefixOf, Ne.symm hc]
      have hix : Lib.index (c :: l) [44] = if Lib.index l [44] == -1 then -1 else Lib.index l [44] + 1 := by rw [Lib.index, hp]; simp
      rw [Lib.count_cons_ne c 44 l hc, partsL, if_neg hc, ← ih]
      cases hk : Lib.count l [44] with
      | zero => rfl
      | succ k =>
        rw [Lib.splitK, Lib.splitK, hix]
        by_cases hm : Lib.index l [44] = -1
        · rw [if_pos (beq_iff_eq.2 hm), if_pos (beq_iff_eq.2 rfl), if_pos (beq_iff_eq.2 hm)]; rfl
        · have hge := Lib.index_ge l [44]
          obtain ⟨j, hj⟩ : ∃ j : Nat, Lib.index l [44] = j := ⟨(Lib.index l [44]).toNat, by omega⟩
          rw [if_neg (fun e => hm (beq_iff_eq.1 e)), if_neg (fun e => by have := beq_iff_eq.1 e; omega), if_neg (fun e => hm (beq_iff_eq.1 e)), hj]
          rw [show (((j : Nat) : Int) + 1).toNat = j + 1 by omega, show ((j : Nat) : Int).toNat = j by omega]
          simp [glue, List.take_succ_cons]
theorem join_glue (c : UInt8) (L : List (List UInt8)) (h : ∃ p ps, L = p :: ps) : Lib.join (glue [c] L) [44] = c :: Lib.join L [44] := by
  obtain ⟨p, ps, rfl⟩ := h
  rw [glue, Lib.join_cons, Lib.join_cons]; rfl
theorem join_parts : ∀ l : List UInt8, Lib.join (partsL l) [44] = l
  | [] => rfl
  | c :: l => by
    unfold partsL
    split
    · rename_i h
      subst h
      obtain ⟨p, ps, e⟩ := partsL_ne l
      have ih := join_parts l
      rw [e, Lib.join_cons] at ih
      rw [Lib.join_cons, e, ← ih]
      simp [Lib.joinTail]
    · rw [join_glue c _ (partsL_ne l), join_parts l]
theorem parts_no : ∀ l : List UInt8, ∀ p ∈ partsL l, (44 : UInt8) ∉ p
  | [] => by simp [partsL]
  | c :: l => by
    have ih := parts_no l
    obtain ⟨p, ps, e⟩ := partsL_ne l
    intro q hq
    unfold partsL at hq
    split at hq
    · rcases List.mem_cons.1 hq with rfl | h
      · simp
      · exact ih q h
    · rename_i hc
      rw [e] at hq ih
      rcases List.mem_cons.1 hq with rfl | h
      · intro hm
        rcases List.mem_append.1 hm with h | h
        · exact hc (List.mem_singleton.1 h).symm
        · exact ih p (List.mem_cons_self ..) h
      · exact ih q (List.mem_cons_of_mem _ h)
theorem parts_length : ∀ l : List UInt8, (partsL l).length ≤ l.length + 1
  | [] => Nat.le_refl _
  | c :: l => by
    have ih := parts_length l
    obtain ⟨p, ps, e⟩ := partsL_ne l
    unfold partsL
    split
    · rw [List.length_cons, List.length_cons]; omega
    · rw [e] at ih ⊢
      rw [glue, List.length_cons, List.length_cons]; rw [List.length_cons] at ih; omega
theorem parts_size : ∀ l : List UInt8, ∀ p ∈ partsL l, p.length ≤ l.length
  | [] => by simp [partsL]
  | c :: l => by
    have ih := parts_size l
    obtain ⟨p, ps, e⟩ := partsL_ne l
    intro q hq
    unfold partsL at hq
    rw [List.length_cons]
    split at hq
    · rcases List.mem_cons.1 hq with rfl | h
      · simp
      · have := ih q h; omega
    · rw [e] at hq ih
      rcases List.mem_cons.1 hq with rfl | h
      · have := ih p (List.mem_cons_self ..)
        rw [List.length_append, List.length_singleton]; omega
      · have := ih q (List.mem_cons_of_mem _ h); omega

/-- One byte more: a part more, or the last one is longer. -/
def cut1 (ps : List ByteArray) (c : UInt8) : List ByteArray := if c = 44 then ps ++ [⟨#[]⟩] else ps.set (ps.length - 1) (ps.getD (ps.length - 1) ⟨#[]⟩ ++ ⟨#[c]⟩)
/-- The parts of a text's first bytes. -/
def cutTo (s : ByteArray) (i : Nat) : List ByteArray := (s.data.toList.take i).foldl cut1 [⟨#[]⟩]
theorem cutTo_zero (s : ByteArray) : cutTo s 0 = [⟨#[]⟩] := rfl
theorem cutTo_succ (s : ByteArray) (i : Nat) (h : i < s.size) : cutTo s (i + 1) = cut1 (cutTo s i) s[i] := by
  unfold cutTo
  rw [List.take_add_one, List.foldl_append]
  have h2 : i < s.data.size := h
  rw [Array.getElem?_toList, Array.getElem?_eq_getElem h2]
  rfl
theorem cut1_last (ps : List ByteArray) (q : ByteArray) (c : UInt8) (hc : ¬ c = 44) : cut1 (ps ++ [q]) c = ps ++ [q ++ ⟨#[c]⟩] := by
  unfold cut1
  rw [if_neg hc, List.length_append, List.length_singleton, Nat.add_sub_cancel, List.getD_eq_getElem?_getD, List.getElem?_append_right (Nat.le_refl _), Nat.sub_self]
  rw [List.set_append_right _ _ (Nat.le_refl _), Nat.sub_self]
  rfl
def bytesOf (s : ByteArray) : List UInt8 := s.data.toList
theorem bytesOf_inj {s t : ByteArray} (h : bytesOf s = bytesOf t) : s = t := by
  obtain ⟨a⟩ := s
  obtain ⟨b⟩ := t
  have : a = b := Array.toList_inj.1 h
  rw [this]
theorem bytesOf_append (s t : ByteArray) : bytesOf (s ++ t) = bytesOf s ++ bytesOf t := by
  unfold bytesOf
  rw [ByteArray.data_append, Array.toList_append]
theorem fold_cut : ∀ (l : List UInt8) (ps : List ByteArray) (q : ByteArray), (l.foldl cut1 (ps ++ [q])).map bytesOf = ps.map bytesOf ++ glue (bytesOf q) (partsL l)
  | [], ps, q => by rw [List.foldl_nil, List.map_append, List.map_cons, List.map_nil, partsL, glue, List.append_nil]
  | c :: l, ps, q => by
    rw [List.foldl_cons]
    by_cases hc : c = 44
    · subst hc
      have e : cut1 (ps ++ [q]) 44 = (ps ++ [q]) ++ [⟨#[]⟩] := by unfold cut1; rw [if_pos rfl]
      rw [e, fold_cut l, List.map_append, List.append_assoc]
      congr 1
      rw [partsL, if_pos rfl, show bytesOf (⟨#[]⟩ : ByteArray) = [] from rfl, glue_nil _ (partsL_ne l), glue, List.append_nil]
      rfl
    · rw [cut1_last _ _ _ hc, fold_cut l, partsL, if_neg hc, glue_glue _ _ _ (partsL_ne l), bytesOf_append]
      rfl
/-- Byte by byte as all at once. -/
theorem cutTo_all (s : ByteArray) : cutTo s s.size = Lib.splitB ⟨#[44]⟩ 0 (Lib.countB s ⟨#[44]⟩) s := by
  have h1 : (cutTo s s.size).map bytesOf = partsL (bytesOf s) := by
    unfold cutTo
    rw [List.take_of_length_le (by rw [Array.length_toList]; exact Nat.le_refl _)]
    have := fold_cut (bytesOf s) [] ⟨#[]⟩
    rw [List.nil_append, List.map_nil, List.nil_append, show bytesOf (⟨#[]⟩ : ByteArray) = [] from rfl, glue_nil _ (partsL_ne _)] at this
    exact this
  have h2 : (Lib.splitB ⟨#[44]⟩ 0 (Lib.countB s ⟨#[44]⟩) s).map bytesOf = partsL (bytesOf s) := by
    have := Lib.splitB_data ⟨#[44]⟩ 0 (Lib.countB s ⟨#[44]⟩) s
    exact this.trans (splitK_parts _)
  exact (List.map_inj_right (fun a b hab => bytesOf_inj hab)).1 (h1.trans h2.symm)
theorem cutTo_length (s : ByteArray) : ∀ i, 1 ≤ (cutTo s i).length ∧ (cutTo s i).length ≤ i + 1 := by
  have h : ∀ (l : List UInt8) (ps : List ByteArray), 1 ≤ ps.length → 1 ≤ (l.foldl cut1 ps).length ∧ (l.foldl cut1 ps).length ≤ l.length + ps.length := by
    intro l
    induction l with
    | nil => intro ps h; simp [h]
    | cons c l ih =>
      intro ps h
      rw [List.foldl_cons]
      have e : 1 ≤ (cut1 ps c).length ∧ (cut1 ps c).length ≤ ps.length + 1 := by
        unfold cut1
        split
        · rw [List.length_append, List.length_singleton]; omega
        · rw [List.length_set]; omega
      have := ih (cut1 ps c) e.1
      rw [List.length_cons]
      omega
  intro i
  have := h (s.data.toList.take i) [⟨#[]⟩] (by simp)
  unfold cutTo
  rw [List.length_singleton, List.length_take] at this
  omega
theorem cutTo_size (s : ByteArray) : ∀ i, ∀ p ∈ cutTo s i, p.size ≤ i := by
  have h : ∀ (l : List UInt8) (ps : List ByteArray) (n : Nat), (∀ p ∈ ps, p.size ≤ n) → ∀ p ∈ l.foldl cut1 ps, p.size ≤ n + l.length := by
    intro l
    induction l with
    | nil => intro ps n h; simpa using h
    | cons c l ih =>
      intro ps n h p hp
      rw [List.foldl_cons] at hp
      have := ih (cut1 ps c) (n + 1) (fun q hq => ?_) p hp
      · rw [List.length_cons]; omega
      · unfold cut1 at hq
        split at hq
        · rcases List.mem_append.1 hq with h1 | h1
          · have := h q h1; omega
          · rw [List.mem_singleton.1 h1]; exact Nat.zero_le _
        · rcases List.mem_or_eq_of_mem_set hq with h1 | h1
          · have := h q h1; omega
          · rw [h1, ByteArray.size_append]
            have : (ps.getD (ps.length - 1) ⟨#[]⟩).size ≤ n := by
              rw [List.getD_eq_getElem?_getD]
              cases hx : ps[ps.length - 1]? with
              | none => exact Nat.zero_le _
              | some y => exact h y (List.mem_of_getElem? hx)
            have e : (⟨#[c]⟩ : ByteArray).size = 1 := rfl
            omega
  intro i p hp
  have := h (s.data.toList.take i) [⟨#[]⟩] 0 (fun q hq => by rw [List.mem_singleton.1 hq]; exact Nat.zero_le _) p hp
  rw [List.length_take] at this
  omega
/-- The parts of a whole text. -/
def partsB (s : ByteArray) : List ByteArray := cutTo s s.size
theorem partsB_bytes (s : ByteArray) : (partsB s).map bytesOf = partsL (bytesOf s) := by
  unfold partsB
  rw [cutTo_all]
  exact (Lib.splitB_data ⟨#[44]⟩ 0 (Lib.countB s ⟨#[44]⟩) s).trans (splitK_parts _)
theorem partsB_length (s : ByteArray) : (partsB s).length = Lib.countB s ⟨#[44]⟩ + 1 := by
  unfold partsB
  rw [cutTo_all]
  exact Lib.splitB_all ⟨#[44]⟩ (by decide) 0 _ s rfl
theorem partsB_le (s : ByteArray) : (partsB s).length ≤ s.size + 1 := (cutTo_length s s.size).2
theorem partsB_pos (s : ByteArray) : 0 < (partsB s).length := (cutTo_length s s.size).1
theorem partsB_size (s : ByteArray) (p : ByteArray) (h : p ∈ partsB s) : p.size ≤ s.size := by
  have h2 : bytesOf p ∈ partsL (bytesOf s) := by rw [← partsB_bytes]; exact List.mem_map_of_mem h
  have := parts_size _ _ h2
  unfold bytesOf at this
  rw [Array.length_toList, Array.length_toList] at this
  exact this
theorem partsB_no (s : ByteArray) (p : ByteArray) (h : p ∈ partsB s) : (44 : UInt8) ∉ p.data.toList := by
  have h2 : bytesOf p ∈ partsL (bytesOf s) := by rw [← partsB_bytes]; exact List.mem_map_of_mem h
  exact parts_no _ _ h2
theorem partsB_join (s : ByteArray) : Lib.join ((partsB s).map (·.data.toList)) [44] = s.data.toList := by
  have := join_parts (bytesOf s)
  rw [← partsB_bytes] at this
  exact this
/- Rows of texts: a call's own, appended to one by one, and written over. -/
/-- A slice of texts that begins at a block's head. -/
def RowS (w : World) (v : Value) (ps : List ByteArray) : Prop := ∃ b c, v = .slice (some ⟨b, 0, none⟩) ps.length c ∧ ps.length ≤ c ∧ b < w.heap.size ∧ ∀ (j : Nat) x, ps[j]? = some x → w.cell? ⟨b, j, none⟩ = some (.string x)
theorem RowS.grew {w w' : World} {v : Value} {ps : List ByteArray} (h : RowS w v ps) (g : Grew w w') : RowS w' v ps := by
  obtain ⟨b, c, e, hc, hb, hcell⟩ := h
  exact ⟨b, c, e, hc, Nat.lt_of_lt_of_le hb g.size, fun j x hj => (g.cell hb).trans (hcell j x hj)⟩
/-- A row of texts of the call's own, from block B on. -/
def OwnS (B : Nat) (E : TypeId) (w : World) (v : Value) (ps : List ByteArray) : Prop := w.ownsRow B E 1 v ps.length (ps.map Value.string)
theorem OwnS.alloc {B : Nat} {E : TypeId} {w : World} {v : Value} {ps : List ByteArray} (h : OwnS B E w v ps) (o : Obj) : OwnS B E (w.alloc o) v ps := World.ownsRow.alloc h o
theorem OwnS.drew {B : Nat} {E : TypeId} {w : World} {v : Value} {ps : List ByteArray} (h : OwnS B E w v ps) : OwnS B E w.drew v ps := World.ownsRow.drew h
theorem OwnS.drewN {B : Nat} {E : TypeId} {w : World} {v : Value} {ps : List ByteArray} (h : OwnS B E w v ps) (n : Nat) : OwnS B E (w.drewN n) v ps := h
theorem OwnS.form {w : World} {B : Nat} {E : TypeId} {v : Value} {ps : List ByteArray} (h : OwnS B E w v ps) (hn : 0 < ps.length) : ∃ g c, v = .slice (some ⟨g, 0, none⟩) ps.length c ∧ B ≤ g ∧ g < w.heap.size := by
  rcases h.2 with ⟨_, h0⟩ | ⟨g, cap, _, hv, hg, hh, _⟩
  · omega
  · exact ⟨g, cap, hv, hg, (Array.getElem?_eq_some_iff.1 hh).1⟩
theorem OwnS.row {w : World} {B : Nat} {E : TypeId} {v : Value} {ps : List ByteArray} (h : OwnS B E w v ps) (hn : 0 < ps.length) : RowS w v ps := by
  have h' := h
  rcases h.2 with ⟨_, h0⟩ | ⟨g, cap, cur, hv, hg, hh, hc, _⟩
  · omega
  · refine ⟨g, cap, hv, hc, (Array.getElem?_eq_some_iff.1 hh).1, fun j x hj => ?_⟩
    have := World.ownsRow.cells h' (g := g) (by rw [hv]; rfl) j (.string x) (by rw [List.getElem?_map, hj]; rfl)
    rwa [show (⟨g, 0, none⟩ : Addr).add j = ⟨g, j, none⟩ by unfold Addr.add; split <;> simp_all] at this
theorem OwnS.at_ {w : World} {B : Nat} {E : TypeId} {g n c : Nat} {ps : List ByteArray} (h : OwnS B E w (.slice (some ⟨g, 0, none⟩) n c) ps) (j : Nat) (hj : j < ps.length) : w.cell? ⟨g, j, none⟩ = some (.string (ps.getD j ⟨#[]⟩)) := by
  have := World.ownsRow.cells h (g := g) rfl j (.string (ps.getD j ⟨#[]⟩)) (by rw [List.getElem?_map, List.getElem?_eq_getElem hj, List.getD_eq_getElem?_getD, List.getElem?_eq_getElem hj]; rfl)
  rwa [show (⟨g, 0, none⟩ : Addr).add j = ⟨g, j, none⟩ by unfold Addr.add; split <;> simp_all] at this
theorem OwnS.frozen {w : World} {B : Nat} {E : TypeId} {g n c : Nat} {ps : List ByteArray} (h : OwnS B E w (.slice (some ⟨g, 0, none⟩) n c) ps) (j : Nat) : w.frozen? ⟨g, j, none⟩ = false := by
  rcases h.2 with ⟨h', _⟩ | ⟨g', cap', cur, h', _, hh, _⟩
  · simp at h'
  · simp only [Value.slice.injEq, Option.some.injEq, Addr.mk.injEq] at h'
    obtain ⟨⟨rfl, _⟩, _⟩ := h'
    simp [World.frozen?, hh]
/-- A text of the row is written over. -/
theorem OwnS.set {w : World} {B : Nat} {E : TypeId} {g c n : Nat} {ps : List ByteArray} (h : OwnS B E w (.slice (some ⟨g, 0, none⟩) n c) ps) (j : Nat) (x : ByteArray) (hj : j < ps.length) :
    OwnS B E (w.setCell ⟨g, j, none⟩ (.string x)) (.slice (some ⟨g, 0, none⟩) n c) (ps.set j x) := by
  unfold OwnS at h ⊢
  rw [List.length_set]
  have hn : n = ps.length := by
    rcases h.2 with ⟨h', _⟩ | ⟨g', cap', cur, h', _⟩
    · simp at h'
    · simp only [Value.slice.injEq] at h'; exact h'.2.1
  subst hn
  have := (World.ownsRow.stored h j (.string x)).1
  rwa [show (ps.map Value.string).set j (.string x) = (ps.set j x).map Value.string by rw [List.map_set]] at this
theorem OwnS.one (w : World) (E : TypeId) (B : Nat) (hB : B ≤ w.heap.size) (x : ByteArray) : OwnS B E (w.alloc (.cells #[.string x] E)) (.slice (some ⟨w.heap.size, 0, none⟩) 1 1) [x] :=
  ⟨rfl, .inr ⟨_, 1, _, rfl, hB, heap_alloc_new w _, Nat.le_refl _, by decide, rfl, rfl⟩⟩
theorem Grew.pushS {w0 w w' : World} {E : TypeId} {v : Value} {ps : List ByteArray} (g : Grew w0 w) (h : OwnS w0.heap.size E w v ps) (hg : w.grownBy w' v.ownBlock) : Grew w0 w' :=
  Below.grown g hg g.size (fun b hb => (World.ownsRow.lt h b hb).1)

section
variable {P : Program} (w : World)
/-- 'append(out, x)' of one text, the row the call's own. -/
theorem wpList_pushS {ops : Array Oper} {rest : List Oper} {o : Oper} {a : Act} {Q : Exit → Act → World → Prop} (hgd : o.guard = none) (s x : Operand) (t : TypeId)
    (ho : o.op = .call { callee := .builtin .append, args := #[s, x], argTypes := #[t, t] })
    (base : Nat) (E : TypeId) (ht : P.underlying t = some (.slice E)) (hi : (P.info? E).map (fun i => (i.zero, i.size, i.bytes)) = some (some (.string ByteArray.empty), 1, 16))
    (v : Value) (ps : List ByteArray) (hs : a.eval s = v) (hown : OwnS base E w v ps)
    (ad : Addr) (p : ByteArray) (hx : a.eval x = .slice (some ad) 1 1) (hc : w.cell? ad = some (.string p))
    (hlen : (ps.length + 1) * 16 ≤ 140737488355328) (hbase : base ≤ w.heap.size)
    (h : ∀ v' w', OwnS base E w' v' (ps ++ [p]) → w.grownBy w' v.ownBlock → wpList P ops Q rest (a.put o.dst v') w') : wpList P ops Q (o :: rest) a w := by
  obtain ⟨i, hi0, hz0, hz1, hz2⟩ := info_parts hi
  refine wpList_append_own w hgd s x t ho base E i (.string ByteArray.empty) 1 16 ht hi0 hz0 hz1 hz2 rfl (by decide) v ps.length (ps.map Value.string) hs hown ad 1 1 [.string p] hx rfl ?_ ?_ ?_ hlen hbase ?_
  · intro j u hj
    match j, hj with
    | 0, hj => simp at hj; subst hj; simpa [Addr.add] using hc
  · intro u hu; simp at hu; subst hu; rfl
  · unfold maxLen; omega
  · intro v' w' h1 h2 _
    refine h v' w' ?_ h2
    unfold OwnS
    simpa using h1
end
/- strings.Split at one byte: no cell is asked for. -/
open Go.Shelf Go.RowKit Go.Lib
variable {P : Program} {ρ : Ren}

set_option maxHeartbeats 1000000 in
theorem Any_strings_Split_one (L : Lays.n146 P ρ) (hi9 : (P.info? (ρ.t 9)).map (fun i => (i.zero, i.size, i.bytes)) = some (some (.string ByteArray.empty), 1, 16)) (s : ByteArray) (w : World) (hs : s.size < 4294967281) :
    Calls P (ρ.f 146) #[.string s, .string ⟨#[44]⟩] w fun e w' =>
      e = .returned (.slice (some ⟨w.heap.size, 0, none⟩) (partsB s).length (partsB s).length) ∧ w' = w.alloc (.cells ((partsB s).map Value.string).toArray (ρ.t 9)) := by
  rw [show partsB s = Lib.splitB ⟨#[44]⟩ 0 (Lib.countB s ⟨#[44]⟩) s from cutTo_all s]
  have hle := Lib.countB_le ⟨#[44]⟩ (by decide) s.size s (Nat.le_refl _)
  have hlen := Lib.splitB_all ⟨#[44]⟩ (by decide) 0 _ s rfl
  have c := Any.strings_genSplit_core { L with } hi9 s ⟨#[44]⟩ 0 (-1) (Lib.countB s ⟨#[44]⟩ + 1) w hs (by decide) (Nat.zero_le _)
    (fun x c hx => (Any.strings_Index_one { L with } x 44 _).mono fun e w' ⟨he, hw⟩ => ⟨by rw [he, ← Lib.index_one], hw⟩)
    ((Any.strings_Count_one { L with } s 44 w).mono fun e w' ⟨he, hw⟩ => ⟨by
      rw [he]
      show _ = Ending.returned (Value.int .i64 ((Lib.count s.data.toList [44] : Nat) : Int))
      rw [Lib.count_one]
      rfl, hw⟩)
    (by decide) (by decide) (by rw [if_pos (by decide)]; omega)
  rw [Nat.add_sub_cancel, hlen] at c
  have e2 : Lib.cellsOf (Lib.splitB ⟨#[44]⟩ 0 (Lib.countB s ⟨#[44]⟩) s) (Lib.countB s ⟨#[44]⟩ + 1) = ((Lib.splitB ⟨#[44]⟩ 0 (Lib.countB s ⟨#[44]⟩) s).map Value.string).toArray := by rw [← hlen]; exact Lib.cellsOf_full _
  rw [e2] at c
  rw [hlen]
  have t3 := L.t3; have t9 := L.t9; have t31 := L.t31
  have a3 := L.a3; have a9 := L.a9; have a31 := L.a31
  have z3 := L.z3; have v3 := L.v3; have z9 := L.z9; have v9 := L.v9; have z31 := L.z31; have v31 := L.v31
  have e221 : ∀ args w, (callFunc (ρ.f 221) args).run P w = .ok (.enter (ρ.f 221) args) w := enters_of L.f221 (by kernel_rfl) rfl
  go_enter L.f146, Body.n146_ntmps ρ
  go_wp2_with (go_at_fn (ρ.f 221); refine c.mono ?_; rintro e w' ⟨rfl, hw⟩; rw [hw])
  go_ret
  exact ⟨rfl, rfl⟩
/- Texts parted at commas: the document's Split, byte by byte, and the program's, by the library's. -/
theorem infoStr : (Tryz.prog.info? 9).map (fun i => (i.zero, i.size, i.bytes)) = some (some (.string ByteArray.empty), 1, 16) := by kernel_rfl
theorem one_cut (s : ByteArray) (j : Nat) (h : j < s.size) : s.extract j (j + 1) = ⟨#[s[j]]⟩ := by
  apply bytesOf_inj
  unfold bytesOf
  rw [ByteArray.data_extract, Array.toList_extract, List.extract_eq_take_drop, Nat.add_sub_cancel_left]
  have h2 : j < s.data.toList.length := by rw [Array.length_toList]; exact h
  rw [List.drop_eq_getElem_cons h2]
  rfl
theorem cut_comma (s : ByteArray) (j : Nat) (h : j < s.size) (hc : wd (nat s) j = 44) : cutTo s (j + 1) = cutTo s j ++ [⟨#[]⟩] := by
  rw [cutTo_succ s j h]
  unfold cut1
  rw [if_pos]
  apply UInt8.toNat_inj.1
  rw [nat_wd s j h, hc]; rfl
theorem cut_other (s : ByteArray) (j : Nat) (h : j < s.size) (hc : ¬ wd (nat s) j = 44) : cutTo s (j + 1) = (cutTo s j).set ((cutTo s j).length - 1) ((cutTo s j).getD ((cutTo s j).length - 1) ⟨#[]⟩ ++ s.extract j (j + 1)) := by
  rw [cutTo_succ s j h, one_cut s j h]
  unfold cut1
  rw [if_neg]
  intro e
  rw [← nat_wd s j h, e] at hc
  exact hc rfl
/-- What a Split has told. -/
def Parted (s : ByteArray) (w : World) (e : Ending) (w' : World) : Prop := ∃ v, e = .returned v ∧ RowS w' v (partsB s) ∧ Grew w w'
theorem fld_Split (s : ByteArray) (w : World) (hs : s.size ≤ 2000) : Calls Tryz.prog 48 #[.string s] w (Parted s w) := by
  have HS := fun w => Lib.hid (Any_strings_Split_one Tryz.lays146 (by kernel_rfl) s w (by omega))
  go_enter Tryz.func48, Tryz.ntmps48
  go_wp2_with (first | (go_at_call 71; refine (HS _).out.mono ?_; rintro e w1 ⟨rfl, rfl⟩))
  go_ret
  refine ⟨_, rfl, ⟨_, _, rfl, Nat.le_refl _, by simp, fun j x hj => ?_⟩, (Grew.refl w).alloc _⟩
  rw [cell_of_row _ _ _ _ _ _ (heap_alloc_new w _)]
  simp [hj]
set_option maxHeartbeats 1000000 in
theorem ref09_Split (s : ByteArray) (w : World) (hs : s.size ≤ 2000) : Calls Tryz.prog 61 #[.string s] w (Parted s w) := by
  have HA := fun j h w => Lib.hid (str_at s j h w)
  have HB := fun j => Lib.hid (nat_lt s j)
  have HC := fun j h hc => Lib.hid (cut_comma s j h hc)
  have HO := fun j h hc => Lib.hid (cut_other s j h hc)
  have HL := fun j => Lib.hid (cutTo_length s j)
  go_enter Tryz.func61, Tryz.ntmps61
  go_wp2_with fail
  go_loopw [3, 4] (fun out i wr => ∃ j : Nat, j ≤ s.size ∧ i = .int .i64 (j : Nat) ∧ Hid (OwnS w.heap.size 9 wr out (cutTo s j)) ∧ Hid (Grew w wr)) (fun _ i _ => s.size - (RowKit.intOf i).toNat)
  case atStart => exact ⟨0, by omega, rfl, OwnS.one w 9 w.heap.size (Nat.le_refl _) _, (Grew.refl w).alloc _⟩
  case round =>
    obtain ⟨j, hj, rfl, hW, hG⟩ := hrel
    by_cases hlt : j < s.size
    · have y := fun w => (HA j hlt w).out
      have x256 := (HB j).out
      have j0 : (j : Int) < s.size := by omega
      have hl := (HL j).out
      by_cases hc : wd (nat s) j = 44
      · have HE := HC j hlt hc
        rw [hc] at y
        clear HC HO HL HA HB hc x256
        go_wp2_with (at_builtin; refine wpList_pushS _ rfl _ _ 77 rfl w.heap.size 9 Tryz.underlying77 infoStr _ (cutTo s j) rfl (hW.out.alloc _) ⟨wr.heap.size, 0, none⟩ ⟨#[]⟩ rfl (by simp) (by omega) (by have := hG.out.size; simp; omega) ?_; intro v1 w3 ho1 hg1)
        go_roundw
        case rel => exact ⟨j + 1, by omega, by simp, by rw [HE.out]; exact ho1, (hG.out.alloc _).pushS (hW.out.alloc _) hg1⟩
        case measure => simp [RowKit.intOf]; omega
      · have HE := HO j hlt hc
        have x1 : ¬ ((wd (nat s) j : Nat) : Int) = 44 := by omega
        obtain ⟨g, c, rfl, hg1, hg2⟩ := hW.out.form hl.1
        have hcell := hW.out.at_ ((cutTo s j).length - 1) (by omega)
        have HST := fun x => Lib.hid (hW.out.set ((cutTo s j).length - 1) x (by omega))
        have hfr := hW.out.frozen ((cutTo s j).length - 1)
        clear HC HO HL HA HB hc hW
        have hp := cutTo_size s j ((cutTo s j).getD ((cutTo s j).length - 1) ⟨#[]⟩) (by rw [List.getD_eq_getElem?_getD, List.getElem?_eq_getElem (by omega)]; exact List.getElem_mem _)
        generalize (cutTo s j).getD ((cutTo s j).length - 1) ⟨#[]⟩ = p at *
        obtain ⟨m, hm⟩ : ∃ m, (cutTo s j).length = m + 1 := ⟨(cutTo s j).length - 1, by omega⟩
        rw [hm, Nat.add_sub_cancel] at hcell hfr HST HE
        rw [hm] at hl ⊢
        generalize wd (nat s) j = x at *
        have m1 : (0 : Int) ≤ j := by omega
        have m2 : IntKind.i64.wrap ((j : Int) + 1) = ((j + 1 : Nat) : Int) := by rw [IntWalk.i64_in _ (by omega)]; simp
        have m3 : ((j + 1 : Nat) : Int) ≤ s.size := by omega
        have m4 : (j : Int) ≤ ((j + 1 : Nat) : Int) := by omega
        have m5 : (0 : Int) ≤ ((j + 1 : Nat) : Int) := by omega
        have n1 : IntKind.i64.wrap (m : Int) = (m : Nat) := IntWalk.i64_in _ (by omega)
        have n2 : (0 : Int) ≤ m := by omega
        have n3 : (m : Int) < m + 1 := by omega
        obtain ⟨J, hJ⟩ : ∃ J, j + 1 = J := ⟨_, rfl⟩
        have HJ := Lib.hid hJ
        rw [hJ] at m2 m3 m4 m5 HE
        clear hJ
        have k1 : ¬ 9223372036854775807 < p.size + (min J s.size - j) := by omega
        go_wp2_with fail
        go_region
        go_wp2_with fail
        go_roundw
        case rel => exact ⟨J, by omega, rfl, by rw [HE.out]; exact (HST _).out.drew, (hG.out.setCell hg1 _).drew⟩
        case measure => have := HJ.out; simp [RowKit.intOf]; omega
    · obtain rfl : j = s.size := by omega
      have hR := Lib.hid (hW.out.row (HL s.size).out.1)
      clear HC HO HL HA HB hW
      go_wp2_with fail
      go_ret
      exact ⟨_, rfl, hR.out, hG.out⟩
end Go.Proofs.YtnhigfkhdmkoeaaGreatDoor

namespace Go.Proofs.YtnhigfkhdmkoeaaGreatDoor
open Go.RowKit
set_option linter.unusedVariables false

/- The program's fields: may be read; bytes among others; numbers. -/
theorem empty_of (s : ByteArray) (h : s.size = 0) : s = ⟨#[]⟩ := by
  obtain ⟨d⟩ := s
  have : d = #[] := Array.eq_empty_of_size_eq_zero h
  rw [this]
theorem is_empty (s : ByteArray) : s.toList.isEmpty = decide (s.size = 0) := by
  rw [Lib.toList_data, Bool.eq_iff_iff, List.isEmpty_iff_length_eq_zero, Array.length_toList, decide_eq_true_eq]
  exact Iff.rfl
/-- Bytes that stand in a text, each with what it is worth there. -/
structure Among (t : ByteArray) (p : Nat → Bool) (v : Nat → Nat) : Prop where
  yes : ∀ b, b < 256 → p b = true → Lib.indexByte t.data.toList b.toUInt8 = (v b : Nat)
  no : ∀ b, b < 256 → p b = false → Lib.indexByte t.data.toList b.toUInt8 = -1
theorem among_of (t : ByteArray) (p : Nat → Bool) (v : Nat → Nat) (h : (List.range 256).all (fun b => Lib.indexByte t.data.toList b.toUInt8 == (if p b then (v b : Int) else -1)) = true) : Among t p v := by
  rw [List.all_eq_true] at h
  refine ⟨fun b hb hp => ?_, fun b hb hp => ?_⟩
  · have := h b (List.mem_range.2 hb)
    rw [hp] at this
    simpa using this
  · have := h b (List.mem_range.2 hb)
    rw [hp] at this
    simpa using this
theorem among_dec : Among ⟨#[48, 49, 50, 51, 52, 53, 54, 55, 56, 57]⟩ isDig (fun b => b - 48) := among_of _ _ _ (by kernel_rfl)
theorem among_hex : Among ⟨#[48, 49, 50, 51, 52, 53, 54, 55, 56, 57, 65, 66, 67, 68, 69, 70]⟩ isHex hexv := among_of _ _ _ (by kernel_rfl)
theorem among_zero : Among ⟨#[48]⟩ (fun b => b == 48) (fun _ => 0) := among_of _ _ _ (by kernel_rfl)

theorem fld_read (s : ByteArray) (w : World) (hs : s.size ≤ 2000) : Calls Tryz.prog 142 #[.string s] w fun e w' => e = .returned (.int .i64 (readE (nat s) : Nat)) ∧ w = w' := by
  have hl := nat_length s
  unfold readE
  rw [hl]
  clear hl
  by_cases h0 : s.size = 0
  · rw [if_pos h0]
    have h0' := empty_of s h0
    subst h0'
    go_enter Tryz.func142, Tryz.ntmps142
    go_wp2_with fail
    go_ret
    exact ⟨rfl, rfl⟩
  · rw [if_neg h0]
    have h0' : s.toList.isEmpty = false := by rw [is_empty]; simpa using h0
    by_cases h1 : 20 < s.size
    · rw [if_pos h1]
      have h1' : (20 : Int) < s.size := by omega
      go_enter Tryz.func142, Tryz.ntmps142
      go_wp2_with fail
      go_ret
      exact ⟨rfl, rfl⟩
    · rw [if_neg h1]
      have h1' : ¬ (20 : Int) < s.size := by omega
      go_enter Tryz.func142, Tryz.ntmps142
      go_wp2_with fail
      go_ret
      exact ⟨rfl, rfl⟩

theorem boolInt (b : Nat) (hb : b < 256) : ((b : Nat) : Int).toNat.toUInt8 = b.toUInt8 := by rw [Int.toNat_natCast]
set_option maxHeartbeats 1000000 in
theorem fld_all (s t : ByteArray) (p : Nat → Bool) (v : Nat → Nat) (a : Addr) (w : World) (hs : s.size ≤ 2000) (ha : w.cell? a = some (.string t)) (D : Among t p v) :
    Calls Tryz.prog 156 #[.string s, .pointer (some a)] w fun e w' => e = .returned (.bool ((nat s).all p)) ∧ Grew w w' := by
  have hl := nat_length s
  have HA := fun j h w => Lib.hid (str_at s j h w)
  have HB := fun j => Lib.hid (nat_lt s j)
  have HALL := Lib.hid (all_iff (S := nat s) (p := p))
  have HL := Lib.hid hl
  have HD := Lib.hid D
  have HC : Hid (∀ w', Grew w w' → w'.cell? a = some (.string t)) := fun w' g => (g.cell (World.block_lt_of_cell? _ _ ha)).trans ha
  have HX := fun (c : Int) w' => Lib.hid (Tryz.strings_IndexByte t c w')
  clear hl D ha
  go_enter Tryz.func156, Tryz.ntmps156
  go_wp2_with fail
  go_loopw [4, 7] (fun x i wr => ∃ j : Nat, j ≤ s.size ∧ i = .int .i64 (j : Nat) ∧ Hid (∀ q : Nat, q < j → p (wd (nat s) q) = true) ∧ Hid (Grew w wr)) (fun _ i _ => s.size - (intOf i).toNat)
  case atStart => exact ⟨0, by omega, rfl, fun q hq => by omega, Grew.refl _⟩
  case round =>
    obtain ⟨j, hj, rfl, hM, hg⟩ := hrel
    by_cases hlt : j < s.size
    · have y := fun w => (HA j hlt w).out
      have m0 : (j : Int) < s.size := by omega
      have m1 : (0 : Int) ≤ j := by omega
      have hc := HC.out _ hg.out
      have hx : ∀ w', Hid _ := fun w' => HX (wd (nat s) j : Nat) w'
      have x256 := (HB j).out
      obtain ⟨c, hc256⟩ : ∃ c, wd (nat s) j = c := ⟨_, rfl⟩
      have hS : Hid (p c = true → ∀ q : Nat, q < j + 1 → p (wd (nat s) q) = true) := fun h q hq => by
        rcases Nat.lt_or_ge q j with h2 | h2
        · exact hM.out q h2
        · obtain rfl : q = j := by omega
          rw [hc256]; exact h
      rw [hc256] at y x256
      cases hd : p c
      · have H : ∀ w', Hid (Calls Tryz.prog 151 #[.string t, .int .u8 (c : Nat)] w' fun e w'' => e = .returned (.int .i64 (-1)) ∧ w'' = w') := fun w' => by
          have := (HX (c : Nat) w').out
          rwa [boolInt c x256, HD.out.no c x256 hd] at this
        have HF : Hid ((nat s).all p = false) := by
          show _ = _
          rw [← Bool.not_eq_true, HALL.out]
          exact fun h => by have := h j (by rw [HL.out]; exact hlt); rw [hc256, hd] at this; cases this
        clear hM hS HX HD HALL hd hc256 HA HB HC
        go_wp2_with fail
        go_quiet (first | (go_at_call 151; exact Calls.quiet_of_same ((H _).out.mono fun _ _ h => ⟨h.1, h.2⟩)))
        go_wp2_with fail
        go_ret
        exact ⟨by rw [HF.out]; rfl, (hg.out.drewN _)⟩
      · have H : ∀ w', Hid (Calls Tryz.prog 151 #[.string t, .int .u8 (c : Nat)] w' fun e w'' => e = .returned (.int .i64 (v c : Nat)) ∧ w'' = w') := fun w' => by
          have := (HX (c : Nat) w').out
          rwa [boolInt c x256, HD.out.yes c x256 hd] at this
        have hS2 := Lib.hid (hS.out hd)
        have hv : ¬ ((v c : Nat) : Int) < 0 := by omega
        clear hM hS HX HD HALL hd hc256 HA HB HC
        go_wp2_with fail
        go_quiet (first | (go_at_call 151; exact Calls.quiet_of_same ((H _).out.mono fun _ _ h => ⟨h.1, h.2⟩)))
        go_wp2_with fail
        go_roundw
        case rel => exact ⟨j + 1, by omega, by simp, hS2, hg.out.drewN _⟩
        case measure => simp [intOf]; omega
    · obtain rfl : j = s.size := by omega
      have HF : Hid ((nat s).all p = true) := by show _ = _; rw [HALL.out]; exact fun i hi => hM.out i (by rw [HL.out] at hi; exact hi)
      clear hM HX HD HALL HA HB HC
      go_wp2_with fail
      go_ret
      exact ⟨by rw [HF.out]; rfl, hg.out⟩
/- The program's fields: numbers of digits. -/
/-- The number of the first k bytes, by what each is worth. -/
def numV (v : Nat → Nat) (B : Nat) (S : List Nat) : Nat → Nat
  | 0 => 0
  | k + 1 => numV v B S k * B + v (wd S k)
theorem numV_mono (v : Nat → Nat) (B : Nat) (S : List Nat) (hB : 1 ≤ B) : ∀ k m, k ≤ m → numV v B S k ≤ numV v B S m := by
  intro k m h
  induction m with
  | zero => have : k = 0 := by omega
            subst this; exact Nat.le_refl _
  | succ m ih =>
    rcases Nat.lt_or_ge k (m + 1) with h1 | h1
    · have := ih (by omega)
      rw [numV]
      have h2 : numV v B S m * 1 ≤ numV v B S m * B := Nat.mul_le_mul_left _ hB
      omega
    · have : k = m + 1 := by omega
      subst this; exact Nat.le_refl _
theorem numV_dec (S : List Nat) : ∀ k, numV (fun b => b - 48) 10 S k = numOf S 0 k
  | 0 => rfl
  | k + 1 => by rw [numV, numOf, numV_dec S k, Nat.zero_add]
theorem numV_hex (S : List Nat) : ∀ k, numV hexv 16 S k = hexTo S k
  | 0 => rfl
  | k + 1 => by rw [numV, hexTo, numV_hex S k]
/-- What a number is told as. -/
def told (n : Nat) : Value := .tuple #[.int .i64 (if n ≤ 9223372036854775807 then (n : Int) else 0), .bool (decide (n ≤ 9223372036854775807))]
set_option maxHeartbeats 1000000 in
theorem fld_number (s t : ByteArray) (p : Nat → Bool) (v : Nat → Nat) (w : World) (hs : s.size ≤ 2000) (hp : (nat s).all p = true) (D : Among t p v) (hB : 2 ≤ t.size ∧ t.size ≤ 100) (hv : ∀ b, p b = true → v b < t.size) :
    Calls Tryz.prog 148 #[.string s, .string t] w fun e w' => e = .returned (told (numV v t.size (nat s) s.size)) ∧ w = w' := by
  have hl := nat_length s
  have HA := fun j h w => Lib.hid (str_at s j h w)
  have HP : Hid (∀ j, j < s.size → wd (nat s) j < 256 ∧ v (wd (nat s) j) < t.size ∧ ∀ w', Calls Tryz.prog 151 #[.string t, .int .u8 (wd (nat s) j : Nat)] w' fun e w'' => e = .returned (.int .i64 (v (wd (nat s) j) : Nat)) ∧ w'' = w') := fun j hj => by
    have h1 := all_iff.1 hp j (by rw [hl]; exact hj)
    have h2 := nat_lt s j
    refine ⟨h2, hv _ h1, fun w' => ?_⟩
    have := Tryz.strings_IndexByte t (wd (nat s) j : Nat) w'
    rwa [boolInt _ h2, D.yes _ h2 h1] at this
  have HM := fun k m h => Lib.hid (numV_mono v t.size (nat s) (by omega) k m h)
  have HS := fun k => Lib.hid (show numV v t.size (nat s) (k + 1) = numV v t.size (nat s) k * t.size + v (wd (nat s) k) from rfl)
  clear hl hp D hv
  obtain ⟨B, hBB⟩ : ∃ B, t.size = B := ⟨_, rfl⟩
  rw [hBB] at HP HM HS hB
  have HBB := Lib.hid hBB
  have b0 : ¬ (B : Int) = 0 := by omega
  have b1 : ¬ (B : Int) = -1 := by omega
  go_enter Tryz.func148, Tryz.ntmps148
  go_wp2_with fail
  go_loop [7, 8, 9, 14] (fun n x d i => ∃ j : Nat, j ≤ s.size ∧ i = .int .i64 (j : Nat) ∧ n = .int .i64 (numV v B (nat s) j : Nat) ∧ numV v B (nat s) j ≤ 9223372036854775807) (fun _ _ _ i => s.size - (intOf i).toNat)
  case atStart => exact ⟨0, by omega, rfl, rfl, by simp [numV]⟩
  case round =>
    obtain ⟨j, hj, rfl, rfl, hn⟩ := hrel
    by_cases hlt : j < s.size
    · have y := fun w => (HA j hlt w).out
      obtain ⟨x256, hvB, H'⟩ := HP.out j hlt
      have H := fun w' => Lib.hid (H' w')
      have m0 : (j : Int) < s.size := by omega
      have m1 : (0 : Int) ≤ j := by omega
      have hst := HS j
      have hmo := HM (j + 1) s.size (by omega)
      generalize wd (nat s) j = c at *
      generalize v c = d at *
      generalize numV v B (nat s) j = n at *
      have d1 : IntKind.i64.wrap (9223372036854775807 - (d : Int)) = ((9223372036854775807 - d : Nat) : Int) := by rw [IntWalk.i64_in _ (by omega)]; omega
      have d2 : Int.tdiv ((9223372036854775807 - d : Nat) : Int) (B : Int) = (((9223372036854775807 - d) / B : Nat) : Int) := rfl
      have d6 : ((9223372036854775807 - d : Nat) : Int) / (B : Int) = (((9223372036854775807 - d) / B : Nat) : Int) := rfl
      have hq : (9223372036854775807 - d) / B ≤ 9223372036854775807 - d := Nat.div_le_self _ _
      have hiff : (9223372036854775807 - d) / B < n ↔ 9223372036854775807 - d < n * B := Nat.div_lt_iff_lt_mul (by omega)
      have HI := Lib.hid hiff
      generalize (9223372036854775807 - d) / B = q at *
      have d3 : IntKind.i64.wrap (q : Int) = q := IntWalk.i64_in _ (by omega)
      clear H' HA HP HM HS hiff
      by_cases hov : q < n
      · have o1 : (q : Int) < n := by omega
        have hbig : Hid (¬ numV v B (nat s) s.size ≤ 9223372036854775807) := by
          show ¬ _
          have h1 := HI.out.1 hov
          have h2 := hst.out
          have h3 := hmo.out
          omega
        clear HI hst hmo
        go_wp2_with (first | (go_at_call 151; refine (H _).out.mono ?_; rintro e w1 ⟨rfl, rfl⟩))
        go_ret2
        exact ⟨by rw [HBB.out]; unfold told; rw [if_neg hbig.out, decide_eq_false hbig.out]; rfl, rfl⟩
      · have o1 : ¬ (q : Int) < n := by omega
        have hle : n * B + d ≤ 9223372036854775807 := by
          have h1 := mt HI.out.2 hov
          omega
        obtain ⟨m, hm⟩ : ∃ m, n * B = m := ⟨_, rfl⟩
        have d4 : IntKind.i64.wrap ((n : Int) * (B : Int)) = (m : Nat) := by rw [← hm, IntWalk.i64_in _ (by rw [← Int.natCast_mul, hm]; omega)]; simp
        have d5 : IntKind.i64.wrap ((m : Int) + (d : Int)) = ((m + d : Nat) : Int) := by rw [IntWalk.i64_in _ (by omega)]; simp
        have hst2 := Lib.hid (show numV v B (nat s) (j + 1) = m + d by rw [hst.out, hm])
        clear HI hst hmo
        go_wp2_with (first | (go_at_call 151; refine (H _).out.mono ?_; rintro e w1 ⟨rfl, rfl⟩))
        go_round
        case rel => exact ⟨j + 1, by omega, by simp, by rw [hst2.out]; simp, by rw [hst2.out]; omega⟩
        case measure => simp [intOf]; omega
    · obtain rfl : j = s.size := by omega
      have HN := Lib.hid hn
      clear HA HP HM HS hn
      go_wp2_with fail
      go_ret2
      exact ⟨by unfold told; rw [if_pos HN.out, decide_eq_true HN.out]; rfl, rfl⟩
/- The program's fields: pieces of a text; what stands ahead of a point, and behind it. -/
theorem place_le (b : Nat) : ∀ L : List Nat, placeOf b L ≤ L.length
  | [] => Nat.le_refl _
  | x :: L => by
    rw [placeOf]
    split
    · exact Nat.zero_le _
    · rw [List.length_cons]; exact Nat.succ_le_succ (place_le b L)
theorem index_place (c : UInt8) : ∀ l : List UInt8, Lib.indexByte l c = if placeOf c.toNat (l.map UInt8.toNat) < l.length then ((placeOf c.toNat (l.map UInt8.toNat) : Nat) : Int) else -1
  | [] => rfl
  | b :: l => by
    have ih := index_place c l
    rw [List.map_cons, placeOf, List.length_cons]
    by_cases h : b = c
    · subst h; simp [Lib.indexByte]
    · have h2 : ¬ b.toNat = c.toNat := fun e => h (UInt8.toNat_inj.1 e)
      have h3 : (b == c) = false := by simpa using h
      rw [if_neg h2]
      by_cases h4 : placeOf c.toNat (l.map UInt8.toNat) < l.length
      · rw [if_pos h4] at ih
        generalize placeOf c.toNat (l.map UInt8.toNat) = P at *
        have h5 : ((P : Int) == -1) = false := by simp
        rw [if_pos (by omega), Lib.indexByte, h3, ih, h5]
        simp
      · rw [if_neg h4] at ih
        rw [if_neg (by omega), Lib.indexByte, h3, ih]
        simp
theorem point_place : ∀ S : List Nat, pointOf S = placeOf 46 S
  | [] => rfl
  | x :: S => by
    rw [placeOf, ← point_place S]
    unfold pointOf
    by_cases h : x = 46
    · subst h; simp
    · simp [h]

theorem fld_allOf (t : ByteArray) (w : World) :
    Calls Tryz.prog 145 #[.string t] w fun e w' => ∃ a, e = .returned (.func (.func 156) #[] #[.pointer (some a)]) ∧ w'.cell? a = some (.string t) ∧ Grew w w' := by
  go_enter Tryz.func145, Tryz.ntmps145
  go_wp2_with fail
  go_ret
  exact ⟨_, rfl, by simp [go_sem], (Grew.refl w).alloc _⟩

/-- What is parted at a byte's first place. -/
def parted (s : ByteArray) (p : Nat) : Value := .tuple #[.string (s.extract 0 p), .string (s.extract (p + 1) s.size), .bool (decide (p < s.size))]
set_option maxHeartbeats 1000000 in
theorem fld_scut (s : ByteArray) (c : UInt8) (p : Nat) (w : World) (hs : s.size ≤ 2000) (hp : placeOf c.toNat (nat s) = p) :
    Calls Tryz.prog 164 #[.string s, .string ⟨#[c]⟩] w fun e w' => e = .returned (parted s p) ∧ Grew w w' := by
  have hl := nat_length s
  have hle := place_le c.toNat (nat s)
  have hI := index_place c s.data.toList
  have HX := fun w' => Tryz.stringslite_Index_one s c w'
  have e1 : s.data.toList.map UInt8.toNat = nat s := rfl
  have e2 : s.data.toList.length = s.size := Array.length_toList ..
  rw [e1, e2, hp] at hI
  rw [hp, hl] at hle
  rw [hI] at HX
  clear hI e1 e2 hp hl
  by_cases hlt : p < s.size
  · rw [if_pos hlt] at HX
    have H := fun w' => Lib.hid (HX w')
    have p1 : (0 : Int) ≤ p := by omega
    have p2 : (p : Int) ≤ s.size := by omega
    have p3 : IntKind.i64.wrap ((p : Int) + 1) = ((p + 1 : Nat) : Int) := by rw [IntWalk.i64_in _ (by omega)]; simp
    have p4 : ((p + 1 : Nat) : Int) ≤ s.size := by omega
    have p5 : (0 : Int) ≤ ((p + 1 : Nat) : Int) := by omega
    have p6 : (((⟨#[c]⟩ : ByteArray).size : Nat) : Int) = 1 := rfl
    have HF : Hid (decide (p < s.size) = true) := decide_eq_true hlt
    clear HX
    obtain ⟨q, hq⟩ : ∃ q, p + 1 = q := ⟨_, rfl⟩
    rw [hq] at p3 p4 p5
    have HQ := Lib.hid hq
    clear hq
    go_enter Tryz.func164, Tryz.ntmps164
    go_wp2_with (first | (go_at_call 124; refine (H _).out.mono ?_; rintro e w1 ⟨rfl, rfl⟩))
    go_quiet (fail)
    go_wp2_with fail
    go_ret3
    exact ⟨by unfold parted; rw [HF.out, HQ.out]; rfl, (Grew.refl _).drewN _⟩
  · rw [if_neg hlt] at HX
    have H := fun w' => Lib.hid (HX w')
    have HF : Hid (parted s p = .tuple #[.string s, .string ⟨#[]⟩, .bool false]) := by
      obtain rfl : p = s.size := by omega
      show _ = _
      unfold parted
      rw [extract_all, extract_none s _ (by omega), decide_eq_false (by omega)]
    clear HX
    go_enter Tryz.func164, Tryz.ntmps164
    go_wp2_with (first | (go_at_call 124; refine (H _).out.mono ?_; rintro e w1 ⟨rfl, rfl⟩))
    go_ret3
    exact ⟨by rw [HF.out]; rfl, Grew.refl _⟩
theorem fld_cut (s : ByteArray) (c : UInt8) (p : Nat) (w : World) (hs : s.size ≤ 2000) (hp : placeOf c.toNat (nat s) = p) :
    Calls Tryz.prog 154 #[.string s, .string ⟨#[c]⟩] w fun e w' => e = .returned (parted s p) ∧ Grew w w' := by
  have H := fun w => Lib.hid (fld_scut s c p w hs hp)
  unfold parted at H
  have HF : Hid (parted s p = .tuple #[.string (s.extract 0 p), .string (s.extract (p + 1) s.size), .bool (decide (p < s.size))]) := rfl
  generalize s.extract 0 p = A at *
  generalize s.extract (p + 1) s.size = B at *
  generalize decide (p < s.size) = D at *
  go_enter Tryz.func154, Tryz.ntmps154
  go_wp2_with (first | (go_at_call 164; refine (H _).out.mono ?_; rintro e w1 ⟨rfl, g1⟩))
  go_ret3
  exact ⟨by rw [HF.out]; rfl, g1⟩
/- The program's fields: digits ahead of a point, and behind it. -/
/-- What stands ahead of a point, and behind it, if both are digits. -/
def atPt (s : ByteArray) (p : Nat) : Value :=
  if digs (nat s) 0 p = false ∨ (p < s.size ∧ digs (nat s) (p + 1) s.size = false) then .tuple #[.string ⟨#[]⟩, .string ⟨#[]⟩, .bool false]
  else .tuple #[.string (s.extract 0 p), .string (s.extract (p + 1) s.size), .bool true]
theorem all_cut (S : List Nat) (p : Nat) (hp : p ≤ S.length) : digs S 0 p = (decide (0 < p) && ((S.take p).drop 0).all isDig) := by
  unfold digs; rw [List.drop_zero, Nat.sub_zero, List.drop_zero]
theorem all_cut2 (S : List Nat) (a : Nat) : digs S a S.length = (decide (a < S.length) && ((S.take S.length).drop a).all isDig) := by
  unfold digs; rw [List.take_of_length_le (by rw [List.length_drop]; exact Nat.le_refl _), List.take_of_length_le (Nat.le_refl _)]
theorem fld_digs (s : ByteArray) (a : Addr) (w : World) (hs : s.size ≤ 2000) (ha : w.cell? a = some (.string ⟨#[48, 49, 50, 51, 52, 53, 54, 55, 56, 57]⟩)) :
    Calls Tryz.prog 156 #[.string s, .pointer (some a)] w fun e w' => e = .returned (.bool ((nat s).all isDig)) ∧ Grew w w' :=
  fld_all s _ isDig (fun b => b - 48) a w hs ha among_dec
theorem kept_cell {w w' : World} {a : Addr} {v : Value} (h : w.cell? a = some v) (g : Grew w w') : w'.cell? a = some v := (g.cell (World.block_lt_of_cell? _ _ h)).trans h
set_option maxHeartbeats 1000000 in
theorem fld_atPoint (s : ByteArray) (p : Nat) (w : World) (hs : s.size ≤ 2000) (hp : pointOf (nat s) = p) :
    Calls Tryz.prog 143 #[.string s] w fun e w' => e = .returned (atPt s p) ∧ Grew w w' := by
  have hl := nat_length s
  have hle : p ≤ s.size := by rw [← hp, ← hl]; exact pointOf_le _
  have HC := fun w => fld_cut s 46 p w hs (by rw [← hp, point_place]; rfl)
  unfold parted at HC
  have HO := fun w => Lib.hid (fld_allOf ⟨#[48, 49, 50, 51, 52, 53, 54, 55, 56, 57]⟩ w)
  have HA := fun a w h => fld_digs (s.extract 0 p) a w (by rw [size_extract]; omega) h
  have HB := fun a w h => fld_digs (s.extract (p + 1) s.size) a w (by rw [size_extract]; omega) h
  have ea := is_empty (s.extract 0 p)
  have eb := is_empty (s.extract (p + 1) s.size)
  rw [size_extract] at ea eb
  rw [nat_extract] at HA HB
  have da := all_cut (nat s) p (by omega)
  have db := all_cut2 (nat s) (p + 1)
  rw [hl] at db
  have HR : Hid (atPt s p = if digs (nat s) 0 p = false ∨ (p < s.size ∧ digs (nat s) (p + 1) s.size = false) then .tuple #[.string ⟨#[]⟩, .string ⟨#[]⟩, .bool false]
    else .tuple #[.string (s.extract 0 p), .string (s.extract (p + 1) s.size), .bool true]) := rfl
  rw [da, db] at HR
  clear da db hp hl
  generalize s.extract 0 p = A at *
  generalize s.extract (p + 1) s.size = B at *
  have hy0 : ¬ p < s.size → (((nat s).take s.size).drop (p + 1)).all isDig = true := fun h => by rw [List.drop_eq_nil_of_le (by rw [List.length_take]; omega)]; rfl
  generalize (((nat s).take p).drop 0).all isDig = x at *
  generalize (((nat s).take s.size).drop (p + 1)).all isDig = y at *
  replace HC := fun w => Lib.hid (HC w)
  replace HA := fun a w h => Lib.hid (HA a w h)
  replace HB := fun a w h => Lib.hid (HB a w h)
  have G := Lib.hid (Grew.refl w)
  by_cases c0 : p = 0
  · have ea2 : A.toList.isEmpty = true := by rw [ea, decide_eq_true (by omega)]
    have HI : Hid (atPt s p = .tuple #[.string ⟨#[]⟩, .string ⟨#[]⟩, .bool false]) := by show _ = _; rw [HR.out, if_pos (.inl (by simp [c0]))]
    clear ea eb HR c0 HA HB
    generalize decide (p < s.size) = D at *
    go_enter Tryz.func143, Tryz.ntmps143
    go_wp2_with (first | (go_at_call 154; refine (HC _).out.mono ?_; rintro e w1 ⟨rfl, g1⟩; replace G := Lib.hid (G.out.trans g1); clear g1) | (go_at_call 145; refine (HO _).out.mono ?_; rintro e w1 ⟨q, rfl, hq, g1⟩; replace G := Lib.hid (G.out.trans g1); have HQ := Lib.hid hq; clear hq g1))
    go_ret3
    exact ⟨by rw [HI.out]; rfl, G.out⟩
  · have ea2 : A.toList.isEmpty = false := by rw [ea, decide_eq_false (by omega)]
    by_cases c1 : p < s.size ∧ s.size ≤ p + 1
    · have eb2 : B.toList.isEmpty = true := by rw [eb, decide_eq_true (by omega)]
      have HI : Hid (atPt s p = .tuple #[.string ⟨#[]⟩, .string ⟨#[]⟩, .bool false]) := by show _ = _; rw [HR.out, if_pos (.inr ⟨c1.1, by rw [decide_eq_false (by omega)]; rfl⟩)]
      rw [decide_eq_true c1.1] at HC
      clear ea eb HR c0 c1 HA HB
      go_enter Tryz.func143, Tryz.ntmps143
      go_wp2_with (first | (go_at_call 154; refine (HC _).out.mono ?_; rintro e w1 ⟨rfl, g1⟩; replace G := Lib.hid (G.out.trans g1); clear g1) | (go_at_call 145; refine (HO _).out.mono ?_; rintro e w1 ⟨q, rfl, hq, g1⟩; replace G := Lib.hid (G.out.trans g1); have HQ := Lib.hid hq; clear hq g1))
      go_ret3
      exact ⟨by rw [HI.out]; rfl, G.out⟩
    · have ed : decide (p < s.size) = true → B.toList.isEmpty = false := fun h => by have := of_decide_eq_true h; rw [eb, decide_eq_false (by omega)]
      cases x
      · have HI : Hid (atPt s p = .tuple #[.string ⟨#[]⟩, .string ⟨#[]⟩, .bool false]) := by show _ = _; rw [HR.out, if_pos (.inl (by simp))]
        clear ea eb HR c0 c1 HB
        cases hD : decide (p < s.size)
        · rw [hD] at HC
          clear hD ed
          go_enter Tryz.func143, Tryz.ntmps143
          go_wp2_with (first | (go_at_call 154; refine (HC _).out.mono ?_; rintro e w1 ⟨rfl, g1⟩; replace G := Lib.hid (G.out.trans g1); clear g1) | (go_at_call 145; refine (HO _).out.mono ?_; rintro e w1 ⟨q, rfl, hq, g1⟩; replace G := Lib.hid (G.out.trans g1); have HQ := Lib.hid hq; clear hq g1) | (go_at_call 156; (with_reducible refine (HA q _ HQ.out).out.mono ?_); rintro e w1 ⟨rfl, g1⟩; replace G := Lib.hid (G.out.trans g1); replace HQ := Lib.hid (kept_cell HQ.out g1); clear g1))
          go_ret3
          exact ⟨by rw [HI.out]; rfl, G.out⟩
        · have eb2 := ed hD
          rw [hD] at HC
          clear hD ed
          go_enter Tryz.func143, Tryz.ntmps143
          go_wp2_with (first | (go_at_call 154; refine (HC _).out.mono ?_; rintro e w1 ⟨rfl, g1⟩; replace G := Lib.hid (G.out.trans g1); clear g1) | (go_at_call 145; refine (HO _).out.mono ?_; rintro e w1 ⟨q, rfl, hq, g1⟩; replace G := Lib.hid (G.out.trans g1); have HQ := Lib.hid hq; clear hq g1) | (go_at_call 156; (with_reducible refine (HA q _ HQ.out).out.mono ?_); rintro e w1 ⟨rfl, g1⟩; replace G := Lib.hid (G.out.trans g1); replace HQ := Lib.hid (kept_cell HQ.out g1); clear g1))
          go_ret3
          exact ⟨by rw [HI.out]; rfl, G.out⟩
      · cases hy : y
        · have hlt : p < s.size := by
            rcases Nat.lt_or_ge p s.size with h | h
            · exact h
            · have := hy0 (by omega); rw [hy] at this; cases this
          have HI : Hid (atPt s p = .tuple #[.string ⟨#[]⟩, .string ⟨#[]⟩, .bool false]) := by show _ = _; rw [HR.out, if_pos (.inr ⟨hlt, by rw [hy]; simp⟩)]
          have hD := decide_eq_true hlt
          have eb2 := ed hD
          rw [hy] at HB
          rw [hD] at HC
          clear hD ed hy ea eb HR c0 c1 hy0 hlt
          go_enter Tryz.func143, Tryz.ntmps143
          go_wp2_with (first | (go_at_call 154; refine (HC _).out.mono ?_; rintro e w1 ⟨rfl, g1⟩; replace G := Lib.hid (G.out.trans g1); clear g1) | (go_at_call 145; refine (HO _).out.mono ?_; rintro e w1 ⟨q, rfl, hq, g1⟩; replace G := Lib.hid (G.out.trans g1); have HQ := Lib.hid hq; clear hq g1) | (go_at_call 156; first | ((with_reducible refine (HA q _ HQ.out).out.mono ?_); rintro e w1 ⟨rfl, g1⟩; replace G := Lib.hid (G.out.trans g1); replace HQ := Lib.hid (kept_cell HQ.out g1); clear g1) | ((with_reducible refine (HB q _ HQ.out).out.mono ?_); rintro e w1 ⟨rfl, g1⟩; replace G := Lib.hid (G.out.trans g1); replace HQ := Lib.hid (kept_cell HQ.out g1); clear g1)))
          go_ret3
          exact ⟨by rw [HI.out]; rfl, G.out⟩
        · have HI : Hid (atPt s p = .tuple #[.string A, .string B, .bool true]) := by show _ = _; rw [HR.out, if_neg (by rw [hy]; simp; omega)]
          rw [hy] at HB
          clear hy ea eb HR c0 c1
          cases hD : decide (p < s.size)
          · rw [hD] at HC
            clear hD ed
            go_enter Tryz.func143, Tryz.ntmps143
            go_wp2_with (first | (go_at_call 154; refine (HC _).out.mono ?_; rintro e w1 ⟨rfl, g1⟩; replace G := Lib.hid (G.out.trans g1); clear g1) | (go_at_call 145; refine (HO _).out.mono ?_; rintro e w1 ⟨q, rfl, hq, g1⟩; replace G := Lib.hid (G.out.trans g1); have HQ := Lib.hid hq; clear hq g1) | (go_at_call 156; first | ((with_reducible refine (HA q _ HQ.out).out.mono ?_); rintro e w1 ⟨rfl, g1⟩; replace G := Lib.hid (G.out.trans g1); replace HQ := Lib.hid (kept_cell HQ.out g1); clear g1) | ((with_reducible refine (HB q _ HQ.out).out.mono ?_); rintro e w1 ⟨rfl, g1⟩; replace G := Lib.hid (G.out.trans g1); replace HQ := Lib.hid (kept_cell HQ.out g1); clear g1)))
            go_ret3
            exact ⟨by rw [HI.out]; rfl, G.out⟩
          · have eb2 := ed hD
            rw [hD] at HC
            clear hD ed
            go_enter Tryz.func143, Tryz.ntmps143
            go_wp2_with (first | (go_at_call 154; refine (HC _).out.mono ?_; rintro e w1 ⟨rfl, g1⟩; replace G := Lib.hid (G.out.trans g1); clear g1) | (go_at_call 145; refine (HO _).out.mono ?_; rintro e w1 ⟨q, rfl, hq, g1⟩; replace G := Lib.hid (G.out.trans g1); have HQ := Lib.hid hq; clear hq g1) | (go_at_call 156; first | ((with_reducible refine (HA q _ HQ.out).out.mono ?_); rintro e w1 ⟨rfl, g1⟩; replace G := Lib.hid (G.out.trans g1); replace HQ := Lib.hid (kept_cell HQ.out g1); clear g1) | ((with_reducible refine (HB q _ HQ.out).out.mono ?_); rintro e w1 ⟨rfl, g1⟩; replace G := Lib.hid (G.out.trans g1); replace HQ := Lib.hid (kept_cell HQ.out g1); clear g1)))
            go_ret3
            exact ⟨by rw [HI.out]; rfl, G.out⟩
/- The program's fields: numbers, hex digits. -/
theorem fld_num_dec (s : ByteArray) (w : World) (hs : s.size ≤ 2000) (hp : (nat s).all isDig = true) :
    Calls Tryz.prog 148 #[.string s, .string ⟨#[48, 49, 50, 51, 52, 53, 54, 55, 56, 57]⟩] w fun e w' => e = .returned (told (numOf (nat s) 0 s.size)) ∧ w = w' := by
  have := fld_number s ⟨#[48, 49, 50, 51, 52, 53, 54, 55, 56, 57]⟩ isDig (fun b => b - 48) w hs hp among_dec (by decide) (fun b hb => by
    unfold isDig at hb
    simp at hb
    show b - 48 < 10
    omega)
  rw [show (⟨#[48, 49, 50, 51, 52, 53, 54, 55, 56, 57]⟩ : ByteArray).size = 10 from rfl, numV_dec] at this
  exact this
theorem fld_num_hex (s : ByteArray) (w : World) (hs : s.size ≤ 2000) (hp : (nat s).all isHex = true) :
    Calls Tryz.prog 148 #[.string s, .string ⟨#[48, 49, 50, 51, 52, 53, 54, 55, 56, 57, 65, 66, 67, 68, 69, 70]⟩] w fun e w' => e = .returned (told (hexTo (nat s) s.size)) ∧ w = w' := by
  have := fld_number s ⟨#[48, 49, 50, 51, 52, 53, 54, 55, 56, 57, 65, 66, 67, 68, 69, 70]⟩ isHex hexv w hs hp among_hex (by decide) (fun b hb => by
    unfold isHex at hb
    simp at hb
    show hexv b < 16
    unfold hexv
    split <;> omega)
  rw [show (⟨#[48, 49, 50, 51, 52, 53, 54, 55, 56, 57, 65, 66, 67, 68, 69, 70]⟩ : ByteArray).size = 16 from rfl, numV_hex] at this
  exact this
theorem fld_hexs (s : ByteArray) (a : Addr) (w : World) (hs : s.size ≤ 2000) (ha : w.cell? a = some (.string ⟨#[48, 49, 50, 51, 52, 53, 54, 55, 56, 57, 65, 66, 67, 68, 69, 70]⟩)) :
    Calls Tryz.prog 156 #[.string s, .pointer (some a)] w fun e w' => e = .returned (.bool ((nat s).all isHex)) ∧ Grew w w' :=
  fld_all s _ isHex hexv a w hs ha among_hex
theorem digs_whole (S : List Nat) (h : 0 < S.length) : digs S 0 S.length = S.all isDig := by
  unfold digs
  rw [decide_eq_true h, List.drop_zero, List.take_of_length_le (by omega), Bool.true_and]

set_option maxHeartbeats 1000000 in
theorem fld_Int (s : ByteArray) (least most : Int) (w : World) (hs : s.size ≤ 2000) (h1 : -9223372036854775808 ≤ least ∧ least ≤ 9223372036854775807) (h2 : -9223372036854775808 ≤ most ∧ most ≤ 9223372036854775807) :
    Calls Tryz.prog 131 #[.string s, .int .i64 least, .int .i64 most] w fun e w' => e = .returned (.tuple #[.int .i64 (intAns (nat s) least most).1, .int .i64 ((intAns (nat s) least most).2 : Nat)]) ∧ Grew w w' := by
  have hl := nat_length s
  have HR := fun w => Lib.hid (fld_read s w hs)
  have G := Lib.hid (Grew.refl w)
  by_cases hr : readE (nat s) = 0
  · have hz := readE_zero hr
    have hw := digs_whole (nat s) (by omega)
    have hI : Hid (intAns (nat s) least most = if digs (nat s) 0 s.size = false then (0, 5) else if (numOf (nat s) 0 s.size : Int) < least ∨ most < (numOf (nat s) 0 s.size : Int) then (0, 9) else ((numOf (nat s) 0 s.size : Int), 0)) := by show _ = _; unfold intAns; rw [if_neg (by omega), hl]
    rw [hl] at hw
    rw [hw] at hI
    rw [hr] at HR
    have HO := fun w => Lib.hid (fld_allOf ⟨#[48, 49, 50, 51, 52, 53, 54, 55, 56, 57]⟩ w)
    have HA := fun a w h => Lib.hid (fld_digs s a w hs h)
    have HN := fun w h => Lib.hid (fld_num_dec s w hs h)
    cases hd : (nat s).all isDig
    · have HI : Hid (intAns (nat s) least most = (0, 5)) := by show _ = _; rw [hI.out, if_pos hd]
      rw [hd] at HA
      clear hI hw hr hl HN hd
      go_enter Tryz.func131, Tryz.ntmps131
      go_wp2_with (first | (go_at_call 142; refine (HR _).out.mono ?_; rintro e w1 ⟨rfl, rfl⟩) | (go_at_call 145; refine (HO _).out.mono ?_; rintro e w1 ⟨q, rfl, hq, g1⟩; replace G := Lib.hid (G.out.trans g1); have HQ := Lib.hid hq; clear hq g1) | (go_at_call 156; (with_reducible refine (HA q _ HQ.out).out.mono ?_); rintro e w1 ⟨rfl, g1⟩; replace G := Lib.hid (G.out.trans g1); clear g1))
      go_ret2
      exact ⟨by rw [HI.out]; rfl, G.out⟩
    · have HI : Hid (intAns (nat s) least most = if (numOf (nat s) 0 s.size : Int) < least ∨ most < (numOf (nat s) 0 s.size : Int) then (0, 9) else ((numOf (nat s) 0 s.size : Int), 0)) := by show _ = _; rw [hI.out, hd, if_neg (by decide)]
      rw [hd] at HA
      have HN2 := fun w => Lib.hid (HN w hd).out
      unfold told at HN2
      generalize numOf (nat s) 0 s.size = n at *
      clear hI hw hr hl HN hd
      by_cases hn : n ≤ 9223372036854775807
      · rw [if_pos hn, decide_eq_true hn] at HN2
        by_cases c1 : (n : Int) < least
        · have HI2 : Hid (intAns (nat s) least most = (0, 9)) := by show _ = _; rw [HI.out, if_pos (.inl c1)]
          clear HI
          go_enter Tryz.func131, Tryz.ntmps131
          go_wp2_with (first | (go_at_call 142; refine (HR _).out.mono ?_; rintro e w1 ⟨rfl, rfl⟩) | (go_at_call 145; refine (HO _).out.mono ?_; rintro e w1 ⟨q, rfl, hq, g1⟩; replace G := Lib.hid (G.out.trans g1); have HQ := Lib.hid hq; clear hq g1) | (go_at_call 156; (with_reducible refine (HA q _ HQ.out).out.mono ?_); rintro e w1 ⟨rfl, g1⟩; replace G := Lib.hid (G.out.trans g1); clear g1) | (go_at_call 148; refine (HN2 _).out.mono ?_; rintro e w1 ⟨rfl, rfl⟩))
          go_ret2
          exact ⟨by rw [HI2.out]; rfl, G.out⟩
        · by_cases c2 : most < (n : Int)
          · have HI2 : Hid (intAns (nat s) least most = (0, 9)) := by show _ = _; rw [HI.out, if_pos (.inr c2)]
            clear HI
            go_enter Tryz.func131, Tryz.ntmps131
            go_wp2_with (first | (go_at_call 142; refine (HR _).out.mono ?_; rintro e w1 ⟨rfl, rfl⟩) | (go_at_call 145; refine (HO _).out.mono ?_; rintro e w1 ⟨q, rfl, hq, g1⟩; replace G := Lib.hid (G.out.trans g1); have HQ := Lib.hid hq; clear hq g1) | (go_at_call 156; (with_reducible refine (HA q _ HQ.out).out.mono ?_); rintro e w1 ⟨rfl, g1⟩; replace G := Lib.hid (G.out.trans g1); clear g1) | (go_at_call 148; refine (HN2 _).out.mono ?_; rintro e w1 ⟨rfl, rfl⟩))
            go_ret2
            exact ⟨by rw [HI2.out]; rfl, G.out⟩
          · have HI2 : Hid (intAns (nat s) least most = ((n : Int), 0)) := by show _ = _; rw [HI.out, if_neg (by omega)]
            clear HI
            go_enter Tryz.func131, Tryz.ntmps131
            go_wp2_with (first | (go_at_call 142; refine (HR _).out.mono ?_; rintro e w1 ⟨rfl, rfl⟩) | (go_at_call 145; refine (HO _).out.mono ?_; rintro e w1 ⟨q, rfl, hq, g1⟩; replace G := Lib.hid (G.out.trans g1); have HQ := Lib.hid hq; clear hq g1) | (go_at_call 156; (with_reducible refine (HA q _ HQ.out).out.mono ?_); rintro e w1 ⟨rfl, g1⟩; replace G := Lib.hid (G.out.trans g1); clear g1) | (go_at_call 148; refine (HN2 _).out.mono ?_; rintro e w1 ⟨rfl, rfl⟩))
            go_ret2
            exact ⟨by rw [HI2.out]; rfl, G.out⟩
      · rw [if_neg hn, decide_eq_false hn] at HN2
        have HI2 : Hid (intAns (nat s) least most = (0, 9)) := by show _ = _; rw [HI.out, if_pos (.inr (by omega))]
        clear HI
        go_enter Tryz.func131, Tryz.ntmps131
        go_wp2_with (first | (go_at_call 142; refine (HR _).out.mono ?_; rintro e w1 ⟨rfl, rfl⟩) | (go_at_call 145; refine (HO _).out.mono ?_; rintro e w1 ⟨q, rfl, hq, g1⟩; replace G := Lib.hid (G.out.trans g1); have HQ := Lib.hid hq; clear hq g1) | (go_at_call 156; (with_reducible refine (HA q _ HQ.out).out.mono ?_); rintro e w1 ⟨rfl, g1⟩; replace G := Lib.hid (G.out.trans g1); clear g1) | (go_at_call 148; refine (HN2 _).out.mono ?_; rintro e w1 ⟨rfl, rfl⟩))
        go_ret2
        exact ⟨by rw [HI2.out]; rfl, G.out⟩
  · have hI : Hid (intAns (nat s) least most = (0, readE (nat s))) := by show _ = _; unfold intAns; rw [if_pos hr]
    have hr9 := readE_le (nat s)
    have r0 : ¬ (readE (nat s) : Int) = 0 := by omega
    have r1 : ((readE (nat s) : Int) == 0) = false := by simpa using r0
    clear hl hr
    generalize readE (nat s) = r at *
    go_enter Tryz.func131, Tryz.ntmps131
    go_wp2_with (first | (go_at_call 142; refine (HR _).out.mono ?_; rintro e w1 ⟨rfl, rfl⟩))
    go_ret2
    exact ⟨by rw [hI.out]; rfl, Grew.refl _⟩

end Go.Proofs.YtnhigfkhdmkoeaaGreatDoor

