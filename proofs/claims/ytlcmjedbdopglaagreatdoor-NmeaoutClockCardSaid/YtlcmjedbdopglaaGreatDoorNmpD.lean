/-
  Sentences as plain lists of bytes: what the fields of each kind tell.
  The program's sentences: what a reader holds in memory, and what it gathers.
  The program's sentences: a reader's fields: times, dates, numbers, letters.
  The program's sentences: a reader's times, numbers without a sign, angles.
  The program's sentences: a reader's times.
-/
import Derived.Test.YtlcmjedbdopglaaGreatDoorFldA
import Derived.Test.YtlcmjedbdopglaaGreatDoorFlsD
import Derived.Test.YtlcmjedbdopglaaGreatDoorFar
import Derived.Test.YtlcmjedbdopglaaGreatDoorFlpE
import Derived.Test.YtlcmjedbdopglaaGreatDoorFlpK
import Derived.KernelRfl
import Derived.Handy
import Derived.Deep.RegionHeld3
namespace Go.Proofs.YtlcmjedbdopglaaGreatDoor
open Go.RowKit
set_option linter.unusedVariables false

/- Sentences as plain lists of bytes: what the fields of each kind tell. -/
/-- What a sentence tells. -/
structure Told where
  kind : Nat := 0
  valid : Bool := false
  hasTime : Bool := false
  hasDate : Bool := false
  hasPos : Bool := false
  time : Nat × Nat × Nat × Bool := (0, 0, 0, false)
  day : Int := 0
  month : Int := 0
  year : Int := 0
  lat : Int := 0
  lon : Int := 0
  speed : Int := 0
  course : Int := 0
  quality : Int := 0
  sats : Int := 0
  mode : Int := 0
  height : Int := 0
  pdop : Int := 0
  hdop : Int := 0
  vdop : Int := 0
  parts : Int := 0
  part : Int := 0
/-- Its cells. -/
def Told.cells (F : Told) : Array Value := #[.int .u8 (F.kind : Nat), .bool F.valid, .bool F.hasTime, .bool F.hasDate, .bool F.hasPos, .int .i64 (F.time.1 : Nat), .int .i64 (F.time.2.1 : Nat), .int .i64 (F.time.2.2.1 : Nat), .bool F.time.2.2.2,
  .int .i64 F.day, .int .i64 F.month, .int .i64 F.year, .int .i64 F.lat, .int .i64 F.lon, .int .i64 F.speed, .int .i64 F.course, .int .i64 F.quality, .int .i64 F.sats, .int .i64 F.mode, .int .i64 F.height, .int .i64 F.pdop, .int .i64 F.hdop, .int .i64 F.vdop, .int .i64 F.parts, .int .i64 F.part]
def Told.value (F : Told) : Value := .agg F.cells

/-- May an error not be told of a field? -/
def badE (e : Nat) : Bool := e != 0 && e != 7
/-- A number that has no sign. -/
def unsBad (S : List Nat) (places : Int) : Bool := (decide (wd S 0 = 45)) || badE (fixedOf S places).2
/-- Minutes, in 1/100000. -/
def minOf (S : List Nat) : Int × Nat :=
  if pointOf S ≠ 2 then (0, 5)
  else if (intAns (S.take 2) 0 59).2 ≠ 0 then (0, (intAns (S.take 2) 0 59).2)
  else fixedOf S 5
/-- Degrees and minutes. -/
def angOf (S : List Nat) (d : Nat) (most : Int) : Int × Nat :=
  if S.length = 0 then (0, 7)
  else if (intAns (S.take (min d S.length)) 0 most).2 ≠ 0 then (0, 5)
  else if (minOf (S.drop (min d S.length))).2 ≠ 0 ∨ most * 6000000 < (intAns (S.take (min d S.length)) 0 most).1 * 6000000 + (minOf (S.drop (min d S.length))).1 then (0, 5)
  else ((intAns (S.take (min d S.length)) 0 most).1 * 6000000 + (minOf (S.drop (min d S.length))).1, 0)

/-- What was told so far, and whether a field may not be. -/
abbrev Rs := Told × Bool
section
variable (f : Nat → List Nat)
def sTime (at_ : Nat) (s : Rs) : Rs := ({ s.1 with time := (clockOf (f at_)).1, hasTime := (clockOf (f at_)).2 == 0 }, s.2 || badE (clockOf (f at_)).2)
def sDate (at_ : Nat) (s : Rs) : Rs := ({ s.1 with day := ((dateOf (f at_)).1.1 : Nat), month := ((dateOf (f at_)).1.2.1 : Nat), year := ((dateOf (f at_)).1.2.2 : Nat), hasDate := (dateOf (f at_)).2 == 0 }, s.2 || badE (dateOf (f at_)).2)
def sActive (at_ : Nat) (s : Rs) : Rs := ({ s.1 with valid := (oneOf (f at_) [65, 86]).2 == 0 && (oneOf (f at_) [65, 86]).1 == 0 }, s.2 || badE (oneOf (f at_) [65, 86]).2)
def sLetter (at_ : Nat) (O : List Nat) (s : Rs) : Rs := (s.1, s.2 || badE (oneOf (f at_) O).2)
def sNeed (at_ : Nat) (s : Rs) : Rs := (s.1, s.2 || (f at_).isEmpty)
def posHas (at_ : Nat) : Bool := (angOf (f at_) 2 90).2 == 0 && (oneOf (f (at_ + 1)) [78, 83]).2 == 0 && (angOf (f (at_ + 2)) 3 180).2 == 0 && (oneOf (f (at_ + 3)) [69, 87]).2 == 0
def sPos (at_ : Nat) (s : Rs) : Rs :=
  ({ s.1 with hasPos := posHas f at_, lat := if posHas f at_ then (angOf (f at_) 2 90).1 * (1 - 2 * ((oneOf (f (at_ + 1)) [78, 83]).1 : Nat)) else s.1.lat, lon := if posHas f at_ then (angOf (f (at_ + 2)) 3 180).1 * (1 - 2 * ((oneOf (f (at_ + 3)) [69, 87]).1 : Nat)) else s.1.lon },
   s.2 || badE (angOf (f at_) 2 90).2 || badE (oneOf (f (at_ + 1)) [78, 83]).2 || badE (angOf (f (at_ + 2)) 3 180).2 || badE (oneOf (f (at_ + 3)) [69, 87]).2)
def nOf (at_ : Nat) (l m : Int) : Int := (intAns (f at_) l m).1
def nBad (at_ : Nat) (l m : Int) : Bool := badE (intAns (f at_) l m).2
def nHas (at_ : Nat) (l m : Int) : Bool := (intAns (f at_) l m).2 == 0
def uOf (at_ : Nat) (p : Int) : Int := (fixedOf (f at_) p).1

def rmcOf (s : Rs) : Rs :=
  let s := sPos f 3 (sActive f 2 (sTime f 1 s))
  let s : Rs := ({ s.1 with speed := uOf f 7 3 }, s.2 || unsBad (f 7) 3)
  let s : Rs := ({ s.1 with course := uOf f 8 2 }, s.2 || unsBad (f 8) 2)
  sDate f 9 s
def ggaOf (s : Rs) : Rs :=
  let s := sPos f 2 (sTime f 1 s)
  let s : Rs := ({ s.1 with quality := nOf f 6 0 8, valid := decide (0 < nOf f 6 0 8) }, s.2 || nBad f 6 0 8)
  let s : Rs := ({ s.1 with sats := nOf f 7 0 99 }, s.2 || nBad f 7 0 99)
  let s : Rs := ({ s.1 with hdop := uOf f 8 2 }, s.2 || unsBad (f 8) 2)
  let s : Rs := ({ s.1 with height := uOf f 9 3 }, s.2 || badE (fixedOf (f 9) 3).2)
  sLetter f 10 [77] s
def gllOf (s : Rs) : Rs := sActive f 6 (sTime f 5 (sPos f 1 s))
/-- The satellites of the first k places of theirs. -/
def satsTo : Nat → Rs → Rs
  | 0, s => s
  | k + 1, s => ({ (satsTo k s).1 with sats := if nHas f (k + 3) 1 999 then (satsTo k s).1.sats + 1 else (satsTo k s).1.sats }, (satsTo k s).2 || nBad f (k + 3) 1 999)
def gsaOf (s : Rs) : Rs :=
  let s := sLetter f 1 [65, 77] s
  let s : Rs := ({ s.1 with mode := nOf f 2 1 3, valid := decide (1 < nOf f 2 1 3) }, s.2 || nBad f 2 1 3)
  let s := satsTo f 12 s
  let s : Rs := ({ s.1 with pdop := uOf f 15 2 }, s.2 || unsBad (f 15) 2)
  let s : Rs := ({ s.1 with hdop := uOf f 16 2 }, s.2 || unsBad (f 16) 2)
  ({ s.1 with vdop := uOf f 17 2 }, s.2 || unsBad (f 17) 2)
def zdaOf (s : Rs) : Rs :=
  let s := sTime f 1 s
  let s : Rs := ({ s.1 with day := nOf f 2 1 31 }, s.2 || nBad f 2 1 31)
  let s : Rs := ({ s.1 with month := nOf f 3 1 12 }, s.2 || nBad f 3 1 12)
  let s : Rs := ({ s.1 with year := nOf f 4 1980 2199 }, s.2 || nBad f 4 1980 2199)
  let s : Rs := (s.1, s.2 || (nHas f 4 1980 2199 && (f 4).length != 4))
  let s : Rs := ({ s.1 with hasDate := nHas f 2 1 31 && nHas f 3 1 12 && nHas f 4 1980 2199 }, s.2)
  ({ s.1 with valid := s.1.hasTime && s.1.hasDate }, s.2)
def vtgOf (s : Rs) : Rs :=
  let s : Rs := ({ s.1 with course := uOf f 1 2 }, s.2 || unsBad (f 1) 2)
  let s := sLetter f 2 [84] s
  let s : Rs := ({ s.1 with speed := uOf f 5 3 }, s.2 || unsBad (f 5) 3)
  let s := sLetter f 6 [78] s
  ({ s.1 with valid := true }, s.2)
def gsvOf (n : Nat) (s : Rs) : Rs :=
  let s : Rs := (s.1, s.2 || !(n % 4 == 3 || n % 4 == 0))
  let s : Rs := ({ s.1 with parts := nOf f 1 1 9 }, s.2 || nBad f 1 1 9)
  let s : Rs := ({ s.1 with part := nOf f 2 1 s.1.parts }, s.2 || nBad f 2 1 s.1.parts)
  let s : Rs := ({ s.1 with sats := nOf f 3 0 99 }, s.2 || nBad f 3 0 99)
  ({ s.1 with valid := true }, s.2)
/-- What a sentence of a kind tells: 1 RMC, 2 GGA, 3 GLL, 4 GSA, 5 ZDA, 6 VTG, 7 GSV. -/
def readOf (k n : Nat) : Rs :=
  if k = 1 then rmcOf f (sNeed f 2 ({ kind := 1 }, false))
  else if k = 2 then ggaOf f ({ kind := 2 }, false)
  else if k = 3 then gllOf f (sNeed f 6 ({ kind := 3 }, false))
  else if k = 4 then gsaOf f (sNeed f 2 (sNeed f 1 ({ kind := 4 }, false)))
  else if k = 5 then zdaOf f ({ kind := 5 }, false)
  else if k = 6 then vtgOf f ({ kind := 6 }, false)
  else gsvOf f n (sNeed f 3 (sNeed f 2 (sNeed f 1 ({ kind := 7 }, false))))
end
/-- A kind by its letters. -/
def lettersOf (S : List Nat) : Nat :=
  if S = [82, 77, 67] then 1 else if S = [71, 71, 65] then 2 else if S = [71, 76, 76] then 3 else if S = [71, 83, 65] then 4 else if S = [90, 68, 65] then 5 else if S = [86, 84, 71] then 6 else if S = [71, 83, 86] then 7 else 0
def capital (b : Nat) : Bool := decide (65 ≤ b ∧ b ≤ 90)
/-- A kind by a first field; 0: none. -/
def kindOfN (S : List Nat) : Nat := if S.length < 2 ∨ capital (wd S 0) = false ∨ capital (wd S 1) = false then 0 else lettersOf (S.drop 2)
def leastOf (k : Nat) : Nat := [0, 11, 14, 6, 17, 6, 8, 3].getD k 0
def mostOf (k : Nat) : Nat := [0, 13, 14, 7, 18, 6, 9, 20].getD k 0
/-- What fields tell. -/
def fixOf (fs : List (List Nat)) : Told × Nat :=
  if kindOfN (fs.getD 0 []) = 0 then ({}, 7)
  else if fs.length - 1 < leastOf (kindOfN (fs.getD 0 [])) then ({}, 4)
  else if mostOf (kindOfN (fs.getD 0 [])) < fs.length - 1 then ({}, 3)
  else if (readOf (fun j => fs.getD j []) (kindOfN (fs.getD 0 [])) (fs.length - 1)).2 then ({}, 5)
  else ((readOf (fun j => fs.getD j []) (kindOfN (fs.getD 0 [])) (fs.length - 1)).1, 0)
def fieldsOf (s : ByteArray) : List (List Nat) := (partsB s).map nat
/-- What a body tells. -/
def parseOf (s : ByteArray) : Told × Nat := fixOf (fieldsOf s)

theorem known_zda : parseOf ⟨#[71, 80, 90, 68, 65, 44, 49, 50, 51, 53, 49, 57, 44, 48, 52, 44, 48, 55, 44, 50, 48, 48, 50, 44, 48, 48, 44, 48, 48]⟩ = ({ kind := 5, valid := true, hasTime := true, hasDate := true, time := (12, 35, 19, true), day := 4, month := 7, year := 2002 }, 0) := by kernel_rfl
theorem known_gll : parseOf ⟨#[71, 80, 71, 76, 76, 44, 52, 57, 49, 54, 46, 52, 53, 44, 78, 44, 49, 50, 51, 49, 49, 46, 49, 50, 44, 87, 44, 50, 50, 53, 52, 52, 52, 44, 65]⟩ = ({ kind := 3, valid := true, hasTime := true, hasPos := true, time := (22, 54, 44, true), lat := 295645000, lon := -739112000 }, 0) := by kernel_rfl
theorem known_bad : parseOf ⟨#[71, 80, 90, 68, 65, 44, 50, 52, 54, 48, 48, 48, 44, 48, 52, 44, 48, 55, 44, 50, 48, 48, 50, 44, 48, 48, 44, 48, 48]⟩ = ({}, 5) := by kernel_rfl
/- The program's sentences: what a reader holds in memory, and what it gathers. -/
/-- A reader: fields, and what gathers. -/
def rv (S n c E : Nat) : Value := .agg #[.slice (some ⟨S, 0, none⟩) n c, .func (.func 21) #[] #[.pointer (some ⟨E, 0, none⟩)]]
/-- A reader's things in memory. -/
structure Rd (w : World) (S n c : Nat) (bs : List ByteArray) (E X : Nat) (s : Rs) : Prop where
  len : bs.length = n
  cap : n ≤ c
  hS : S < w.heap.size
  fields : ∀ (j : Nat) x, bs[j]? = some x → w.cell? ⟨S, j, none⟩ = some (.string x)
  small : ∀ (j : Nat) x, bs[j]? = some x → x.size ≤ 1000
  many : n ≤ 1001
  err : w.heap[E]? = some (.cells #[.int .i64 (if s.2 then 5 else 0)] 23)
  fix : w.heap[X]? = some (.cells s.1.cells 36)
  SE : S ≠ E
  SX : S ≠ X
  EX : E ≠ X
abbrev FarE (E : Nat) := Far (fun k => k = E)
section
variable {w w' : World} {S n c E X : Nat} {bs : List ByteArray} {s : Rs}
theorem Rd.hE (h : Rd w S n c bs E X s) : E < w.heap.size := (Array.getElem?_eq_some_iff.1 h.err).1
theorem Rd.hX (h : Rd w S n c bs E X s) : X < w.heap.size := (Array.getElem?_eq_some_iff.1 h.fix).1
theorem Rd.cellE (h : Rd w S n c bs E X s) : w.cell? ⟨E, 0, none⟩ = some (.int .i64 (if s.2 then 5 else 0)) := by simp [World.cell?, h.err]
theorem Rd.frozenE (h : Rd w S n c bs E X s) : w.frozen? ⟨E, 0, none⟩ = false := by simp [World.frozen?, h.err]
theorem Rd.cellX (h : Rd w S n c bs E X s) (k : Nat) (v : Value) (hk : s.1.cells[k]? = some v) : w.cell? ⟨X, k, none⟩ = some v := by simp [World.cell?, h.fix, hk]
theorem Rd.frozenX (h : Rd w S n c bs E X s) (k : Nat) : w.frozen? ⟨X, k, none⟩ = false := by simp [World.frozen?, h.fix]
theorem Rd.grew (h : Rd w S n c bs E X s) (g : Grew w w') : Rd w' S n c bs E X s :=
  ⟨h.len, h.cap, Nat.lt_of_lt_of_le h.hS g.size, fun j x hj => (g.cell (p := ⟨S, j, none⟩) h.hS).trans (h.fields j x hj), h.small, h.many, (g.below.block _ h.hE).trans h.err, (g.below.block _ h.hX).trans h.fix, h.SE, h.SX, h.EX⟩
/-- Behind calls that write what is gathered alone. -/
theorem Rd.far {b : Bool} (h : Rd w S n c bs E X s) (g : FarE E w w') (he : w'.heap[E]? = some (.cells #[.int .i64 (if b then 5 else 0)] 23)) : Rd w' S n c bs E X (s.1, b) :=
  ⟨h.len, h.cap, Nat.lt_of_lt_of_le h.hS g.size, fun j x hj => (g.cell (p := ⟨S, j, none⟩) h.hS h.SE).trans (h.fields j x hj), h.small, h.many, he, (g.block _ h.hX (fun e => h.EX e.symm)).trans h.fix, h.SE, h.SX, h.EX⟩
theorem heap_setCell_cells {w : World} {b k : Nat} {a : Array Value} {t : TypeId} (h : w.heap[b]? = some (.cells a t)) (v : Value) : (w.setCell ⟨b, k, none⟩ v).heap[b]? = some (.cells (a.setIfInBounds k v) t) := by
  show (w.heap.modify b _)[b]? = _
  rw [Array.getElem?_modify, if_pos rfl, h]
  rfl
theorem Rd.five (h : Rd w S n c bs E X s) : Rd (w.setCell ⟨E, 0, none⟩ (.int .i64 5)) S n c bs E X (s.1, true) :=
  h.far (Far.one w ⟨E, 0, none⟩ _) (by rw [heap_setCell_cells h.err]; rfl)
/-- A cell of what is told is written. -/
theorem Rd.put (h : Rd w S n c bs E X s) (k : Nat) (v : Value) (F : Told) (hF : s.1.cells.setIfInBounds k v = F.cells) : Rd (w.setCell ⟨X, k, none⟩ v) S n c bs E X (F, s.2) := by
  have g : Far (fun b => b = X) w (w.setCell ⟨X, k, none⟩ v) := Far.one w ⟨X, k, none⟩ v
  exact ⟨h.len, h.cap, Nat.lt_of_lt_of_le h.hS g.size, fun j x hj => (g.cell (p := ⟨S, j, none⟩) h.hS h.SX).trans (h.fields j x hj), h.small, h.many, (g.block _ h.hE h.EX).trans h.err, by rw [heap_setCell_cells h.fix, hF], h.SE, h.SX, h.EX⟩
theorem Rd.eta (h : Rd w S n c bs E X s) : Rd w S n c bs E X (s.1, s.2) := h
theorem FarE.grew (h : FarE E w w') {a : World} (g : Grew a w) (hE : a.heap.size ≤ E) : Grew a w' := Far.grew h g (fun k e => e ▸ hE)
/-- What a call of a reader has done. -/
def Rdt (w : World) (S n c : Nat) (bs : List ByteArray) (E X : Nat) (s : Rs) (v : Value) (e : Ending) (w' : World) : Prop := e = .returned v ∧ Rd w' S n c bs E X s ∧ FarE E w w'

theorem ifb_true : (if true = true then (5 : Int) else 0) = 5 := rfl
theorem r_gather (h : Rd w S n c bs E X s) (t : Nat) (ht : t < 1000) : Calls Tryz.prog 21 #[.int .i64 (t : Nat), .pointer (some ⟨E, 0, none⟩)] w (Rdt w S n c bs E X (s.1, s.2 || badE t) (.tuple #[])) := by
  have c0 := h.cellE
  have f0 := h.frozenE
  by_cases h0 : t = 0
  · subst h0
    have HH := Lib.hid h
    clear h
    go_enter Tryz.func21, Tryz.ntmps21
    go_wp2_with fail
    go_returns
    exact ⟨rfl, by rw [show badE 0 = false from rfl, Bool.or_false]; exact HH.out, Far.refl _ _⟩
  · by_cases h7 : t = 7
    · subst h7
      have HH := Lib.hid h
      clear h
      go_enter Tryz.func21, Tryz.ntmps21
      go_wp2_with fail
      go_returns
      exact ⟨rfl, by rw [show badE 7 = false from rfl, Bool.or_false]; exact HH.out, Far.refl _ _⟩
    · have hb : badE t = true := by simp [badE, h0, h7]
      have HH := Lib.hid h.five
      have z0 : ((t : Int) == 0) = false := by simpa using h0
      have z7 : ((t : Int) == 7) = false := by simp; omega
      have x0 : ((t : Int) != 0) = true := by simp; omega
      have x7 : ((t : Int) != 7) = true := by simp; omega
      have y0 : ¬ (t : Int) = 0 := by omega
      have y7 : ¬ (t : Int) = 7 := by omega
      clear h h0 h7
      go_enter Tryz.func21, Tryz.ntmps21
      go_wp2_with fail
      go_returns
      exact ⟨rfl, by rw [hb, Bool.or_true]; exact HH.out, Far.one w ⟨E, 0, none⟩ _⟩

/-- A reader's own copy. -/
theorem boxR (w : World) (S n c E : Nat) : ∃ W, w.alloc (.cells #[.slice (some ⟨S, 0, none⟩) n c, .func (.func 21) #[] #[.pointer (some ⟨E, 0, none⟩)]] 65) = W ∧ Grew w W ∧ w.heap.size < W.heap.size ∧ W.cell? ⟨w.heap.size, 0, none⟩ = some (.slice (some ⟨S, 0, none⟩) n c) ∧ W.cell? ⟨w.heap.size, 1, none⟩ = some (.func (.func 21) #[] #[.pointer (some ⟨E, 0, none⟩)]) :=
  ⟨_, rfl, (Grew.refl w).alloc _, by simp, by simp [go_sem], by simp [go_sem]⟩

set_option maxHeartbeats 1000000 in
theorem r_ask (h : Rd w S n c bs E X s) (b : Bool) : Calls Tryz.prog 36 #[rv S n c E, .bool b] w (Rdt w S n c bs E X (s.1, s.2 || !b) (.tuple #[])) := by
  obtain ⟨W, hW, gW, ltW, d0, d1⟩ := boxR w S n c E
  have HH := Lib.hid (h.grew gW)
  have HG := Lib.hid (r_gather (h.grew gW) 5 (by omega))
  unfold Rdt at HG
  have GW := Lib.hid gW
  clear h gW
  unfold rv
  cases b
  · go_enter Tryz.func36, Tryz.ntmps36
    go_upto_region 1 with fail
    go_wp2_with (go_at_call 21; refine HG.out.mono ?_; rintro e w1 ⟨rfl, h1, g1⟩)
    go_returns
    exact ⟨rfl, h1, (Far.of_grew GW.out).trans g1⟩
  · go_enter Tryz.func36, Tryz.ntmps36
    go_upto_region 1 with fail
    go_wp2_with fail
    go_returns
    exact ⟨rfl, by rw [Bool.not_true, Bool.or_false]; exact HH.out, Far.of_grew GW.out⟩

set_option maxHeartbeats 1000000 in
theorem r_there (h : Rd w S n c bs E X s) (t : Nat) (ht : t < 1000) : Calls Tryz.prog 111 #[rv S n c E, .int .i64 (t : Nat)] w (Rdt w S n c bs E X (s.1, s.2 || badE t) (.bool (t == 0))) := by
  obtain ⟨W, hW, gW, ltW, d0, d1⟩ := boxR w S n c E
  have HG := Lib.hid (r_gather (h.grew gW) t ht)
  unfold Rdt at HG
  have GW := Lib.hid gW
  have e0 : ((t : Int) == 0) = (t == 0) := by
    rw [Bool.eq_iff_iff, beq_iff_eq, beq_iff_eq]; omega
  have E0 := Lib.hid e0
  clear h gW e0
  unfold rv
  go_enter Tryz.func111, Tryz.ntmps111
  go_upto_region 1 with fail
  go_wp2_with (go_at_call 21; refine HG.out.mono ?_; rintro e w1 ⟨rfl, h1, g1⟩)
  go_ret
  refine ⟨?_, h1, (Far.of_grew GW.out).trans g1⟩
  first | (rw [← E0.out]; rfl) | (rw [← E0.out]; simp)
end
/- The program's sentences: a reader's fields: times, dates, numbers, letters. -/
theorem int_err (S : List Nat) (l m : Int) : (intAns S l m).2 < 1000 := by
  have := readE_le S
  unfold intAns
  repeat' split
  all_goals simp
  all_goals omega
theorem fixed_err (S : List Nat) (p : Int) : (fixedOf S p).2 < 1000 := by
  have := readE_le S
  unfold fixedOf
  repeat' split
  all_goals simp
  all_goals omega
theorem clock_err (S : List Nat) : (clockOf S).2 < 1000 := by
  have := readE_le S
  unfold clockOf
  repeat' split
  all_goals simp
  all_goals omega
theorem date_err (S : List Nat) : (dateOf S).2 < 1000 := by
  have := readE_le S
  unfold dateOf
  repeat' split
  all_goals simp
  all_goals omega
theorem one_err (S O : List Nat) : (oneOf S O).2 < 1000 := by
  have := readE_le S
  unfold oneOf
  repeat' split
  all_goals simp
  all_goals omega
theorem one_place (S O : List Nat) : (oneOf S O).1 ≤ O.length := by
  unfold oneOf
  repeat' split
  all_goals simp
  omega
section
variable {w w' : World} {S n c E X : Nat} {bs : List ByteArray} {s : Rs}
theorem Rd.at_ (h : Rd w S n c bs E X s) {j : Nat} {x : ByteArray} (hx : bs[j]? = some x) : (j : Int) < n ∧ (0 : Int) ≤ j ∧ (j : Int) < c ∧ x.size ≤ 1000 := by
  have h1 := (List.getElem?_eq_some_iff.1 hx).1
  have h2 := h.len
  have h3 := h.cap
  exact ⟨by omega, by omega, by omega, h.small j x hx⟩

set_option maxHeartbeats 1000000 in
theorem r_number (h : Rd w S n c bs E X s) (j : Nat) (x : ByteArray) (hx : bs[j]? = some x) (l m : Int) (h1 : -9223372036854775808 ≤ l ∧ l ≤ 9223372036854775807) (h2 : -9223372036854775808 ≤ m ∧ m ≤ 9223372036854775807) :
    Calls Tryz.prog 87 #[rv S n c E, .int .i64 (j : Nat), .int .i64 l, .int .i64 m] w
      (Rdt w S n c bs E X (s.1, s.2 || badE (intAns (nat x) l m).2) (.tuple #[.int .i64 (intAns (nat x) l m).1, .bool ((intAns (nat x) l m).2 == 0)])) := by
  obtain ⟨W, hW, gW, ltW, d0, d1⟩ := boxR w S n c E
  obtain ⟨j0, j1, j2, hs⟩ := h.at_ hx
  have hc := (h.grew gW).fields j x hx
  have HI := fun w => Lib.hid (fld_Int x l m w hs h1 h2)
  have HT := fun w' (g : Grew w w') => Lib.hid (r_there (h.grew g) _ (int_err (nat x) l m))
  unfold Rdt at HT
  have G := Lib.hid gW
  clear h gW
  generalize intAns (nat x) l m = r at *
  unfold rv at HT ⊢
  go_enter Tryz.func87, Tryz.ntmps87
  go_upto_region 1 with fail
  go_wp2_with (first | (go_at_call 115; refine (HI _).out.mono ?_; rintro e w1 ⟨rfl, g1⟩; have e0 := (g1.cell (p := ⟨w.heap.size, 0, none⟩) ltW).trans d0; have e1 := (g1.cell (p := ⟨w.heap.size, 1, none⟩) ltW).trans d1; replace G := Lib.hid (G.out.trans g1); clear g1) | (go_at_call 111; refine (HT _ G.out).out.mono ?_; rintro e w2 ⟨rfl, hh, gg⟩))
  go_ret2
  exact ⟨rfl, hh, (Far.of_grew G.out).trans gg⟩
set_option maxHeartbeats 1000000 in
theorem r_letter (h : Rd w S n c bs E X s) (j : Nat) (x : ByteArray) (hx : bs[j]? = some x) (o : ByteArray) (ho : o.size ≤ 1000) :
    Calls Tryz.prog 89 #[rv S n c E, .int .i64 (j : Nat), .string o] w
      (Rdt w S n c bs E X (s.1, s.2 || badE (oneOf (nat x) (nat o)).2) (.tuple #[.int .i64 ((oneOf (nat x) (nat o)).1 : Nat), .bool ((oneOf (nat x) (nat o)).2 == 0)])) := by
  obtain ⟨W, hW, gW, ltW, d0, d1⟩ := boxR w S n c E
  obtain ⟨j0, j1, j2, hs⟩ := h.at_ hx
  have hc := (h.grew gW).fields j x hx
  have HI := fun w => Lib.hid (fld_One x o w hs ho)
  have HT := fun w' (g : Grew w w') => Lib.hid (r_there (h.grew g) _ (one_err (nat x) (nat o)))
  unfold Rdt at HT
  have G := Lib.hid gW
  clear h gW
  generalize oneOf (nat x) (nat o) = r at *
  unfold rv at HT ⊢
  go_enter Tryz.func89, Tryz.ntmps89
  go_upto_region 1 with fail
  go_wp2_with (first | (go_at_call 117; refine (HI _).out.mono ?_; rintro e w1 ⟨rfl, g1⟩; have e0 := (g1.cell (p := ⟨w.heap.size, 0, none⟩) ltW).trans d0; have e1 := (g1.cell (p := ⟨w.heap.size, 1, none⟩) ltW).trans d1; replace G := Lib.hid (G.out.trans g1); clear g1) | (go_at_call 111; refine (HT _ G.out).out.mono ?_; rintro e w2 ⟨rfl, hh, gg⟩))
  go_ret2
  exact ⟨rfl, hh, (Far.of_grew G.out).trans gg⟩
set_option maxHeartbeats 1000000 in
theorem r_fixed (h : Rd w S n c bs E X s) (j : Nat) (x : ByteArray) (hx : bs[j]? = some x) (p : Int) (hp : -9223372036854775808 ≤ p ∧ p ≤ 9223372036854775807) :
    Calls Tryz.prog 88 #[rv S n c E, .int .i64 (j : Nat), .int .i64 p] w
      (Rdt w S n c bs E X (s.1, s.2 || badE (fixedOf (nat x) p).2) (.int .i64 (fixedOf (nat x) p).1)) := by
  obtain ⟨W, hW, gW, ltW, d0, d1⟩ := boxR w S n c E
  obtain ⟨j0, j1, j2, hs⟩ := h.at_ hx
  have hc := (h.grew gW).fields j x hx
  have HI := fun w => Lib.hid (fld_Fixed x p w hs hp)
  have HT := fun w' (g : Grew w w') => Lib.hid (r_gather (h.grew g) _ (fixed_err (nat x) p))
  unfold Rdt at HT
  have G := Lib.hid gW
  clear h gW
  generalize fixedOf (nat x) p = r at *
  unfold rv
  go_enter Tryz.func88, Tryz.ntmps88
  go_upto_region 1 with fail
  go_wp2_with (first | (go_at_call 116; refine (HI _).out.mono ?_; rintro e w1 ⟨rfl, g1⟩; have e0 := (g1.cell (p := ⟨w.heap.size, 0, none⟩) ltW).trans d0; have e1 := (g1.cell (p := ⟨w.heap.size, 1, none⟩) ltW).trans d1; replace G := Lib.hid (G.out.trans g1); clear g1) | (go_at_call 21; refine (HT _ G.out).out.mono ?_; rintro e w2 ⟨rfl, hh, gg⟩))
  go_ret
  exact ⟨rfl, hh, (Far.of_grew G.out).trans gg⟩
set_option maxHeartbeats 1000000 in
theorem r_date (h : Rd w S n c bs E X s) (j : Nat) (x : ByteArray) (hx : bs[j]? = some x) :
    Calls Tryz.prog 86 #[rv S n c E, .int .i64 (j : Nat)] w
      (Rdt w S n c bs E X (s.1, s.2 || badE (dateOf (nat x)).2) (.tuple #[.int .i64 ((dateOf (nat x)).1.1 : Nat), .int .i64 ((dateOf (nat x)).1.2.1 : Nat), .int .i64 ((dateOf (nat x)).1.2.2 : Nat), .bool ((dateOf (nat x)).2 == 0)])) := by
  obtain ⟨W, hW, gW, ltW, d0, d1⟩ := boxR w S n c E
  obtain ⟨j0, j1, j2, hs⟩ := h.at_ hx
  have hc := (h.grew gW).fields j x hx
  have HI := fun w => Lib.hid (fld_Date x w hs)
  unfold dateVal at HI
  have HT := fun w' (g : Grew w w') => Lib.hid (r_there (h.grew g) _ (date_err (nat x)))
  unfold Rdt at HT
  have G := Lib.hid gW
  clear h gW
  generalize dateOf (nat x) = r at *
  obtain ⟨⟨r1, r2, r3⟩, r4⟩ := r
  unfold rv at HT ⊢
  go_enter Tryz.func86, Tryz.ntmps86
  go_upto_region 1 with fail
  go_wp2_with (first | (go_at_call 114; refine (HI _).out.mono ?_; rintro e w1 ⟨rfl, g1⟩; have e0 := (g1.cell (p := ⟨w.heap.size, 0, none⟩) ltW).trans d0; have e1 := (g1.cell (p := ⟨w.heap.size, 1, none⟩) ltW).trans d1; replace G := Lib.hid (G.out.trans g1); clear g1) | (go_at_call 111; refine (HT _ G.out).out.mono ?_; rintro e w2 ⟨rfl, hh, gg⟩))
  go_returns
  exact ⟨rfl, hh, (Far.of_grew G.out).trans gg⟩
set_option maxHeartbeats 1000000 in
theorem r_active (h : Rd w S n c bs E X s) (j : Nat) (x : ByteArray) (hx : bs[j]? = some x) :
    Calls Tryz.prog 83 #[rv S n c E, .int .i64 (j : Nat)] w
      (Rdt w S n c bs E X (s.1, s.2 || badE (oneOf (nat x) [65, 86]).2) (.bool ((oneOf (nat x) [65, 86]).2 == 0 && (oneOf (nat x) [65, 86]).1 == 0))) := by
  obtain ⟨W, hW, gW, ltW, d0, d1⟩ := boxR w S n c E
  have HT := Lib.hid (r_letter (h.grew gW) j x hx ⟨#[65, 86]⟩ (by decide))
  rw [show nat ⟨#[65, 86]⟩ = [65, 86] from rfl] at HT
  unfold Rdt at HT
  have G := Lib.hid gW
  clear h gW hx
  generalize oneOf (nat x) [65, 86] = r at *
  obtain ⟨p, q⟩ := r
  have e0 : ((p : Int) == 0) = (p == 0) := by
    rw [Bool.eq_iff_iff, beq_iff_eq, beq_iff_eq]; omega
  have E0 := Lib.hid e0
  clear e0
  unfold rv at HT ⊢
  go_enter Tryz.func83, Tryz.ntmps83
  go_upto_region 1 with fail
  cases hq : (q == 0)
  all_goals
    rw [hq] at HT
    have HQ := Lib.hid hq
    clear hq
    go_wp2_with (go_at_call 89; refine HT.out.mono ?_; rintro e w2 ⟨rfl, hh, gg⟩)
    go_ret
    exact ⟨by first | (rw [HQ.out, Bool.false_and]; rfl) | (rw [HQ.out, Bool.true_and, ← E0.out]; rfl), hh, (Far.of_grew G.out).trans gg⟩
set_option maxHeartbeats 1000000 in
theorem r_sign (h : Rd w S n c bs E X s) (j : Nat) (x : ByteArray) (hx : bs[j]? = some x) (o : ByteArray) (ho : o.size ≤ 1000) :
    Calls Tryz.prog 113 #[rv S n c E, .int .i64 (j : Nat), .string o] w
      (Rdt w S n c bs E X (s.1, s.2 || badE (oneOf (nat x) (nat o)).2) (.tuple #[.int .i64 (1 - 2 * ((oneOf (nat x) (nat o)).1 : Nat)), .bool ((oneOf (nat x) (nat o)).2 == 0)])) := by
  obtain ⟨W, hW, gW, ltW, d0, d1⟩ := boxR w S n c E
  have HT := Lib.hid (r_letter (h.grew gW) j x hx o ho)
  have hp := one_place (nat x) (nat o)
  rw [nat_length] at hp
  unfold Rdt at HT
  have G := Lib.hid gW
  clear h gW hx
  generalize oneOf (nat x) (nat o) = r at *
  obtain ⟨p, q⟩ := r
  have m1 : IntKind.i64.wrap (2 * (p : Int)) = 2 * (p : Int) := IntWalk.i64_in _ (by simp only at hp; omega)
  have m2 : IntKind.i64.wrap (1 - 2 * (p : Int)) = 1 - 2 * (p : Int) := IntWalk.i64_in _ (by simp only at hp; omega)
  unfold rv at HT ⊢
  go_enter Tryz.func113, Tryz.ntmps113
  go_upto_region 1 with fail
  go_wp2_with (go_at_call 89; refine HT.out.mono ?_; rintro e w2 ⟨rfl, hh, gg⟩)
  go_ret2
  exact ⟨rfl, hh, (Far.of_grew G.out).trans gg⟩
end
/- The program's sentences: a reader's times, numbers without a sign, angles. -/
/-- A time's variable. -/
structure DayAt (w : World) (b : Nat) (t : Nat × Nat × Nat × Bool) : Prop where
  lt : b < w.heap.size
  h : w.heap[b]? = some (.cells #[.int .i64 (t.1 : Nat), .int .i64 (t.2.1 : Nat), .int .i64 (t.2.2.1 : Nat), .bool t.2.2.2] 34)
theorem prefix_minus (s : ByteArray) : Lib.hasPrefix s.data.toList [45] = decide (wd (nat s) 0 = 45) := by
  unfold nat
  cases h : s.data.toList with
  | nil => rfl
  | cons a l =>
    rw [List.map_cons]
    show Lib.hasPrefix (a :: l) [45] = decide (a.toNat = 45)
    simp only [Lib.hasPrefix, List.isPrefixOf, Bool.and_true]
    rw [Bool.eq_iff_iff, beq_iff_eq, decide_eq_true_eq]
    exact ⟨fun e => by rw [← e]; rfl, fun e => (UInt8.toNat_inj.1 (by rw [e]; rfl)).symm⟩
section
variable {w w' : World} {S n c E X : Nat} {bs : List ByteArray} {s : Rs}
set_option maxHeartbeats 1000000 in
theorem r_unsigned (h : Rd w S n c bs E X s) (j : Nat) (x : ByteArray) (hx : bs[j]? = some x) (p : Int) (hp : -9223372036854775808 ≤ p ∧ p ≤ 9223372036854775807) :
    Calls Tryz.prog 85 #[rv S n c E, .int .i64 (j : Nat), .int .i64 p] w
      (Rdt w S n c bs E X (s.1, s.2 || unsBad (nat x) p) (.int .i64 (fixedOf (nat x) p).1)) := by
  obtain ⟨W, hW, gW, ltW, d0, d1⟩ := boxR w S n c E
  obtain ⟨j0, j1, j2, hs⟩ := h.at_ hx
  have hc := (h.grew gW).fields j x hx
  have HP : ∀ w, Hid _ := fun w => Lib.hid (Tryz.strings_HasPrefix x ⟨#[45]⟩ w)
  rw [show (⟨#[45]⟩ : ByteArray).data.toList = [45] from rfl, prefix_minus] at HP
  have HA := fun w' (g : Grew w w') b => Lib.hid (r_ask (h.grew g) b)
  have HF := fun w' s' (h' : Rd w' S n c bs E X s') => Lib.hid (r_fixed h' j x hx p hp)
  unfold Rdt at HA HF
  have hSE := h.SE
  have hSl := h.hS
  have hEl := h.hE
  have KS : ∀ w', FarE E W w' → w'.cell? ⟨w.heap.size, 0, none⟩ = some (.slice (some ⟨S, 0, none⟩) n c) ∧ w'.cell? ⟨w.heap.size, 1, none⟩ = some (.func (.func 21) #[] #[.pointer (some ⟨E, 0, none⟩)]) ∧ w'.cell? ⟨S, j, none⟩ = some (.string x) := fun w' g =>
    ⟨(g.cell (p := ⟨w.heap.size, 0, none⟩) ltW (fun e => by simp only at e; omega)).trans d0, (g.cell (p := ⟨w.heap.size, 1, none⟩) ltW (fun e => by simp only at e; omega)).trans d1, (g.cell (p := ⟨S, j, none⟩) (Nat.lt_of_lt_of_le hSl gW.size) hSE).trans hc⟩
  have GW := Lib.hid gW
  have G : FarE E W W.drew := Far.of_grew (Grew.refl W).drew
  have HU := Lib.hid (show unsBad (nat x) p = (decide (wd (nat x) 0 = 45) || badE (fixedOf (nat x) p).2) from rfl)
  clear h hx hc
  generalize fixedOf (nat x) p = r at *
  generalize decide (wd (nat x) 0 = 45) = b at *
  unfold rv at HF HA ⊢
  go_enter Tryz.func85, Tryz.ntmps85
  go_upto_region 1 with fail
  go_region_held3 (fun w' => w'.cell? ⟨w.heap.size, 0, none⟩ = some (.slice (some ⟨S, 0, none⟩) n c) ∧ w'.cell? ⟨w.heap.size, 1, none⟩ = some (.func (.func 21) #[] #[.pointer (some ⟨E, 0, none⟩)]) ∧ w'.cell? ⟨S, j, none⟩ = some (.string x)) (exact KS _ G)
    (first | (go_at_call 44; refine (HP _).out.mono ?_; rintro e w1 ⟨rfl, rfl⟩) | (go_at_call 36; refine (HA _ (GW.out.trans (Grew.refl W).drew) _).out.mono ?_; rintro e w1 ⟨rfl, hh, gg⟩; replace G := G.trans gg))
  rw [Bool.not_not] at hh
  obtain ⟨k0, k1, _⟩ := KS _ G
  have HF2 := HF _ _ hh
  clear HF HA HP KS hh
  go_wp2_with (go_at_call 88; refine HF2.out.mono ?_; rintro e w2 ⟨rfl, h2, g2⟩)
  go_ret
  exact ⟨rfl, by rw [HU.out, ← Bool.or_assoc]; exact h2, ((Far.of_grew GW.out).trans G).trans g2⟩
end
/- The program's sentences: a reader's times. -/
theorem FourAt.far {F : Nat → Prop} {w w' : World} {b : Nat} {x0 x1 x2 x3 : Value} (h : FourAt w b x0 x1 x2 x3) (g : Far F w w') (hb : ¬ F b) : FourAt w' b x0 x1 x2 x3 :=
  ⟨Nat.lt_of_lt_of_le h.lt g.size, (g.cell (p := ⟨b, 0, none⟩) h.lt hb).trans h.c0, (g.cell (p := ⟨b, 1, none⟩) h.lt hb).trans h.c1, (g.cell (p := ⟨b, 2, none⟩) h.lt hb).trans h.c2, (g.cell (p := ⟨b, 3, none⟩) h.lt hb).trans h.c3,
   (g.frozen (p := ⟨b, 0, none⟩) h.lt hb).trans h.f0, (g.frozen (p := ⟨b, 1, none⟩) h.lt hb).trans h.f1, (g.frozen (p := ⟨b, 2, none⟩) h.lt hb).trans h.f2, (g.frozen (p := ⟨b, 3, none⟩) h.lt hb).trans h.f3⟩
theorem newFour9 (w : World) (x0 x1 x2 x3 : Value) (E : TypeId) : ∃ W, w.alloc (.cells #[x0, x1, x2, x3] E) = W ∧ Grew w W ∧ FourAt W w.heap.size x0 x1 x2 x3 ∧ w.heap.size < W.heap.size :=
  ⟨_, rfl, (Grew.refl w).alloc _, FourAt.new w _ _ _ _ _, by simp⟩
theorem far_four (w : World) (b : Nat) (y0 y1 y2 y3 : Value) : Far (fun k => k = b) w (fourSet w b y0 y1 y2 y3) :=
  Far.setCell (F := fun k => k = b) (Far.setCell (F := fun k => k = b) (Far.setCell (F := fun k => k = b) (Far.one w ⟨b, 0, none⟩ y0) (p := ⟨b, 1, none⟩) rfl y1) (p := ⟨b, 2, none⟩) rfl y2) (p := ⟨b, 3, none⟩) rfl y3
section
variable {w w' : World} {S n c E X : Nat} {bs : List ByteArray} {s : Rs}
/-- A block that is none of a reader's is written. -/
theorem Rd.off (h : Rd w S n c bs E X s) {b : Nat} (g : Far (fun k => k = b) w w') (h1 : S ≠ b) (h2 : E ≠ b) (h3 : X ≠ b) : Rd w' S n c bs E X s :=
  ⟨h.len, h.cap, Nat.lt_of_lt_of_le h.hS g.size, fun j x hj => (g.cell (p := ⟨S, j, none⟩) h.hS h1).trans (h.fields j x hj), h.small, h.many, (g.block _ h.hE h2).trans h.err, (g.block _ h.hX h3).trans h.fix, h.SE, h.SX, h.EX⟩
set_option maxHeartbeats 1000000 in
theorem r_clock (h : Rd w S n c bs E X s) (j : Nat) (x : ByteArray) (hx : bs[j]? = some x) :
    Calls Tryz.prog 82 #[rv S n c E, .int .i64 (j : Nat)] w
      (Rdt w S n c bs E X (s.1, s.2 || badE (clockOf (nat x)).2) (.tuple #[.agg #[.int .i64 ((clockOf (nat x)).1.1 : Nat), .int .i64 ((clockOf (nat x)).1.2.1 : Nat), .int .i64 ((clockOf (nat x)).1.2.2.1 : Nat), .bool (clockOf (nat x)).1.2.2.2], .bool ((clockOf (nat x)).2 == 0)])) := by
  obtain ⟨W, hW, gW, ltW, d0, d1⟩ := boxR w S n c E
  obtain ⟨j0, j1, j2, hs⟩ := h.at_ hx
  obtain ⟨V, hV, gV, dV⟩ := newDay W 34
  have hc := (h.grew (gW.trans gV)).fields j x hx
  have e0 := (gV.cell (p := ⟨w.heap.size, 0, none⟩) ltW).trans d0
  have e1 := (gV.cell (p := ⟨w.heap.size, 1, none⟩) ltW).trans d1
  have HI := fun w => Lib.hid (fld_Clock x w hs)
  unfold dayVal at HI
  have HT := fun w' (g : Grew w w') => Lib.hid (r_there (h.grew g) _ (clock_err (nat x)))
  unfold Rdt at HT
  have G0 := Lib.hid (gW.trans gV)
  clear gW gV d0 d1
  have hSl := h.hS
  have hEl := h.hE
  have hXl := h.hX
  clear h hx
  generalize clockOf (nat x) = r at *
  obtain ⟨⟨r1, r2, r3, r4⟩, r5⟩ := r
  unfold rv at HT ⊢
  go_enter Tryz.func82, Tryz.ntmps82
  go_upto_region 1 with fail
  go_upto_region 2 with (go_at_call 110; refine (HI _).out.mono ?_; rintro e w1 ⟨rfl, g1⟩)
  obtain ⟨U, hU, gU, dU, ltU⟩ := newFour9 w1 (.int .i64 r1) (.int .i64 r2) (.int .i64 r3) (.bool r4) 34
  rw [hU]
  have hwV : W.heap.size < V.heap.size := dV.lt
  have GVU := g1.trans gU
  have hVs := g1.size
  have KS : ∀ w', Far (fun k => k = E ∨ k = W.heap.size) U w' → (w'.cell? ⟨w.heap.size, 0, none⟩ = some (.slice (some ⟨S, 0, none⟩) n c) ∧ w'.cell? ⟨w.heap.size, 1, none⟩ = some (.func (.func 21) #[] #[.pointer (some ⟨E, 0, none⟩)])) ∧
      (w'.cell? ⟨w1.heap.size, 0, none⟩ = some (.int .i64 r1) ∧ w'.cell? ⟨w1.heap.size, 1, none⟩ = some (.int .i64 r2) ∧ w'.cell? ⟨w1.heap.size, 2, none⟩ = some (.int .i64 r3) ∧ w'.cell? ⟨w1.heap.size, 3, none⟩ = some (.bool r4)) := fun w' g => by
    have l1 : w.heap.size < U.heap.size := by have := GVU.size; omega
    have q := dU.far g (fun e => by have e' : w1.heap.size = E ∨ w1.heap.size = W.heap.size := e; omega)
    exact ⟨⟨((g.cell (p := ⟨w.heap.size, 0, none⟩) l1 (fun e => by simp only at e; omega)).trans (GVU.cell (p := ⟨w.heap.size, 0, none⟩) (by simp only; omega))).trans e0, ((g.cell (p := ⟨w.heap.size, 1, none⟩) l1 (fun e => by simp only at e; omega)).trans (GVU.cell (p := ⟨w.heap.size, 1, none⟩) (by simp only; omega))).trans e1⟩, q.c0, q.c1, q.c2, q.c3⟩
  have KR : ∀ w', FarE E U w' → Hid (FourAt w' W.heap.size (.int .i64 0) (.int .i64 0) (.int .i64 0) (.bool false)) := fun w' g => Lib.hid ((dV.grew GVU).far g (fun e => by have e' : W.heap.size = E := e; omega))
  have G : Far (fun k => k = E ∨ k = W.heap.size) U U.drew := Far.of_grew (Grew.refl U).drew
  have GU := Lib.hid (G0.out.trans GVU)
  clear hU gU dU GVU g1 HI dV e0 e1 hc
  go_region_held3 (fun w' => (w'.cell? ⟨w.heap.size, 0, none⟩ = some (.slice (some ⟨S, 0, none⟩) n c) ∧ w'.cell? ⟨w.heap.size, 1, none⟩ = some (.func (.func 21) #[] #[.pointer (some ⟨E, 0, none⟩)])) ∧
      (w'.cell? ⟨w1.heap.size, 0, none⟩ = some (.int .i64 r1) ∧ w'.cell? ⟨w1.heap.size, 1, none⟩ = some (.int .i64 r2) ∧ w'.cell? ⟨w1.heap.size, 2, none⟩ = some (.int .i64 r3) ∧ w'.cell? ⟨w1.heap.size, 3, none⟩ = some (.bool r4)))
    (first | exact KS _ G | exact KS _ (G.trans ((far_four _ W.heap.size (.int .i64 r1) (.int .i64 r2) (.int .i64 r3) (.bool r4)).mono (fun k _ hk => .inr hk))))
    (first | (go_at_call 111; refine (HT _ (GU.out.trans (Grew.refl U).drew)).out.mono ?_; rintro e w2 ⟨rfl, hh, gg⟩; replace G := G.trans (gg.mono (fun k _ hk => .inl hk)); obtain ⟨_, a0, a1, a2, a3, b0, b1, b2, b3⟩ := (KR _ ((Far.of_grew (Grew.refl U).drew).trans gg)).out))
  go_wp2_with fail
  refine bodyPost_ret (by simp [results, Tryz.results82, go_sem, a0, a1, a2, a3]; try rfl) rfl ?_
  have FW := far_four w2 W.heap.size (.int .i64 r1) (.int .i64 r2) (.int .i64 r3) (.bool r4)
  exact ⟨rfl, hh.off FW (by omega) (by omega) (by omega), (((Far.of_grew GU.out).trans (Far.of_grew (Grew.refl U).drew)).trans gg).beyond FW (fun k hk => .inr (by have hk' : k = W.heap.size := hk; omega))⟩
end
end Go.Proofs.YtlcmjedbdopglaaGreatDoor
