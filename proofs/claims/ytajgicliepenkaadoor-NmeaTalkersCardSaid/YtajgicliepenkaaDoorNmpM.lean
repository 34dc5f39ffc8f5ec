/-
  Sentences as plain lists of bytes: what the fields of each kind tell.
-/
import Derived.Test.YtajgicliepenkaaDoorFldM
import Derived.Test.YtajgicliepenkaaDoorFlsA
import Derived.KernelRfl
namespace Go.Proofs.YtajgicliepenkaaDoor
open Go.RowKit
set_option linter.unusedVariables false

/-- What a sentence tells. -/
structure Told where
  kind : Nat := 0
  valid : Bool := false
  hasTime : Bool := false
  hasDate : Bool := false
  hasPos : Bool := false
  time : Nat × Nat × Nat × Bool := (0, 0, 0, false)
  day : Int := 0
  month : Int := 0
  year : Int := 0
  lat : Int := 0
  lon : Int := 0
  speed : Int := 0
  course : Int := 0
  quality : Int := 0
  sats : Int := 0
  mode : Int := 0
  height : Int := 0
  pdop : Int := 0
  hdop : Int := 0
  vdop : Int := 0
  parts : Int := 0
  part : Int := 0
/-- Its cells. -/
def Told.cells (F : Told) : Array Value := #[.int .u8 (F.kind : Nat), .bool F.valid, .bool F.hasTime, .bool F.hasDate, .bool F.hasPos, .int .i64 (F.time.1 : Nat), .int .i64 (F.time.2.1 : Nat), .int .i64 (F.time.2.2.1 : Nat), .bool F.time.2.2.2,
  .int .i64 F.day, .int .i64 F.month, .int .i64 F.year, .int .i64 F.lat, .int .i64 F.lon, .int .i64 F.speed, .int .i64 F.course, .int .i64 F.quality, .int .i64 F.sats, .int .i64 F.mode, .int .i64 F.height, .int .i64 F.pdop, .int .i64 F.hdop, .int .i64 F.vdop, .int .i64 F.parts, .int .i64 F.part]
def Told.value (F : Told) : Value := .agg F.cells

/-- May an error not be told of a field? -/
def badE (e : Nat) : Bool := e != 0 && e != 7
/-- A number that has no sign. -/
def unsBad (S : List Nat) (places : Int) : Bool := (decide (wd S 0 = 45)) || badE (fixedOf S places).2
/-- Minutes, in 1/100000. -/
def minOf (S : List Nat) : Int × Nat :=
  if pointOf S ≠ 2 then (0, 5)
  else if (intAns (S.take 2) 0 59).2 ≠ 0 then (0, (intAns (S.take 2) 0 59).2)
  else fixedOf S 5
/-- Degrees and minutes. -/
def angOf (S : List Nat) (d : Nat) (most : Int) : Int × Nat :=
  if S.length = 0 then (0, 7)
  else if (intAns (S.take (min d S.length)) 0 most).2 ≠ 0 then (0, 5)
  else if (minOf (S.drop (min d S.length))).2 ≠ 0 ∨ most * 6000000 < (intAns (S.take (min d S.length)) 0 most).1 * 6000000 + (minOf (S.drop (min d S.length))).1 then (0, 5)
  else ((intAns (S.take (min d S.length)) 0 most).1 * 6000000 + (minOf (S.drop (min d S.length))).1, 0)

/-- What was told so far, and whether a field may not be. -/
abbrev Rs := Told × Bool
section
variable (f : Nat → List Nat)
def sTime (at_ : Nat) (s : Rs) : Rs := ({ s.1 with time := (clockOf (f at_)).1, hasTime := (clockOf (f at_)).2 == 0 }, s.2 || badE (clockOf (f at_)).2)
def sDate (at_ : Nat) (s : Rs) : Rs := ({ s.1 with day := ((dateOf (f at_)).1.1 : Nat), month := ((dateOf (f at_)).1.2.1 : Nat), year := ((dateOf (f at_)).1.2.2 : Nat), hasDate := (dateOf (f at_)).2 == 0 }, s.2 || badE (dateOf (f at_)).2)
def sActive (at_ : Nat) (s : Rs) : Rs := ({ s.1 with valid := (oneOf (f at_) [65, 86]).2 == 0 && (oneOf (f at_) [65, 86]).1 == 0 }, s.2 || badE (oneOf (f at_) [65, 86]).2)
def sLetter (at_ : Nat) (O : List Nat) (s : Rs) : Rs := (s.1, s.2 || badE (oneOf (f at_) O).2)
def sNeed (at_ : Nat) (s : Rs) : Rs := (s.1, s.2 || (f at_).isEmpty)
def posHas (at_ : Nat) : Bool := (angOf (f at_) 2 90).2 == 0 && (oneOf (f (at_ + 1)) [78, 83]).2 == 0 && (angOf (f (at_ + 2)) 3 180).2 == 0 && (oneOf (f (at_ + 3)) [69, 87]).2 == 0
def sPos (at_ : Nat) (s : Rs) : Rs :=
  ({ s.1 with hasPos := posHas f at_, lat := if posHas f at_ then (angOf (f at_) 2 90).1 * (1 - 2 * ((oneOf (f (at_ + 1)) [78, 83]).1 : Nat)) else s.1.lat, lon := if posHas f at_ then (angOf (f (at_ + 2)) 3 180).1 * (1 - 2 * ((oneOf (f (at_ + 3)) [69, 87]).1 : Nat)) else s.1.lon },
   s.2 || badE (angOf (f at_) 2 90).2 || badE (oneOf (f (at_ + 1)) [78, 83]).2 || badE (angOf (f (at_ + 2)) 3 180).2 || badE (oneOf (f (at_ + 3)) [69, 87]).2)
def nOf (at_ : Nat) (l m : Int) : Int := (intAns (f at_) l m).1
def nBad (at_ : Nat) (l m : Int) : Bool := badE (intAns (f at_) l m).2
def nHas (at_ : Nat) (l m : Int) : Bool := (intAns (f at_) l m).2 == 0
def uOf (at_ : Nat) (p : Int) : Int := (fixedOf (f at_) p).1

def rmcOf (s : Rs) : Rs :=
  let s := sPos f 3 (sActive f 2 (sTime f 1 s))
  let s : Rs := ({ s.1 with speed := uOf f 7 3 }, s.2 || unsBad (f 7) 3)
  let s : Rs := ({ s.1 with course := uOf f 8 2 }, s.2 || unsBad (f 8) 2)
  sDate f 9 s
def ggaOf (s : Rs) : Rs :=
  let s := sPos f 2 (sTime f 1 s)
  let s : Rs := ({ s.1 with quality := nOf f 6 0 8, valid := decide (0 < nOf f 6 0 8) }, s.2 || nBad f 6 0 8)
  let s : Rs := ({ s.1 with sats := nOf f 7 0 99 }, s.2 || nBad f 7 0 99)
  let s : Rs := ({ s.1 with hdop := uOf f 8 2 }, s.2 || unsBad (f 8) 2)
  let s : Rs := ({ s.1 with height := uOf f 9 3 }, s.2 || badE (fixedOf (f 9) 3).2)
  sLetter f 10 [77] s
def gllOf (s : Rs) : Rs := sActive f 6 (sTime f 5 (sPos f 1 s))
/-- The satellites of the first k places of theirs. -/
def satsTo : Nat → Rs → Rs
  | 0, s => s
  | k + 1, s => ({ (satsTo k s).1 with sats := if nHas f (k + 3) 1 999 then (satsTo k s).1.sats + 1 else (satsTo k s).1.sats }, (satsTo k s).2 || nBad f (k + 3) 1 999)
def gsaOf (s : Rs) : Rs :=
  let s := sLetter f 1 [65, 77] s
  let s : Rs := ({ s.1 with mode := nOf f 2 1 3, valid := decide (1 < nOf f 2 1 3) }, s.2 || nBad f 2 1 3)
  let s := satsTo f 12 s
  let s : Rs := ({ s.1 with pdop := uOf f 15 2 }, s.2 || unsBad (f 15) 2)
  let s : Rs := ({ s.1 with hdop := uOf f 16 2 }, s.2 || unsBad (f 16) 2)
  ({ s.1 with vdop := uOf f 17 2 }, s.2 || unsBad (f 17) 2)
def zdaOf (s : Rs) : Rs :=
  let s := sTime f 1 s
  let s : Rs := ({ s.1 with day := nOf f 2 1 31 }, s.2 || nBad f 2 1 31)
  let s : Rs := ({ s.1 with month := nOf f 3 1 12 }, s.2 || nBad f 3 1 12)
  let s : Rs := ({ s.1 with year := nOf f 4 1980 2199 }, s.2 || nBad f 4 1980 2199)
  let s : Rs := (s.1, s.2 || (nHas f 4 1980 2199 && (f 4).length != 4))
  let s : Rs := ({ s.1 with hasDate := nHas f 2 1 31 && nHas f 3 1 12 && nHas f 4 1980 2199 }, s.2)
  ({ s.1 with valid := s.1.hasTime && s.1.hasDate }, s.2)
def vtgOf (s : Rs) : Rs :=
  let s : Rs := ({ s.1 with course := uOf f 1 2 }, s.2 || unsBad (f 1) 2)
  let s := sLetter f 2 [84] s
  let s : Rs := ({ s.1 with speed := uOf f 5 3 }, s.2 || unsBad (f 5) 3)
  let s := sLetter f 6 [78] s
  ({ s.1 with valid := true }, s.2)
def gsvOf (n : Nat) (s : Rs) : Rs :=
  let s : Rs := (s.1, s.2 || !(n % 4 == 3 || n % 4 == 0))
  let s : Rs := ({ s.1 with parts := nOf f 1 1 9 }, s.2 || nBad f 1 1 9)
  let s : Rs := ({ s.1 with part := nOf f 2 1 s.1.parts }, s.2 || nBad f 2 1 s.1.parts)
  let s : Rs := ({ s.1 with sats := nOf f 3 0 99 }, s.2 || nBad f 3 0 99)
  ({ s.1 with valid := true }, s.2)
/-- What a sentence of a kind tells: 1 RMC, 2 GGA, 3 GLL, 4 GSA, 5 ZDA, 6 VTG, 7 GSV. -/
def readOf (k n : Nat) : Rs :=
  if k = 1 then rmcOf f (sNeed f 2 ({ kind := 1 }, false))
  else if k = 2 then ggaOf f ({ kind := 2 }, false)
  else if k = 3 then gllOf f (sNeed f 6 ({ kind := 3 }, false))
  else if k = 4 then gsaOf f (sNeed f 2 (sNeed f 1 ({ kind := 4 }, false)))
  else if k = 5 then zdaOf f ({ kind := 5 }, false)
  else if k = 6 then vtgOf f ({ kind := 6 }, false)
  else gsvOf f n (sNeed f 3 (sNeed f 2 (sNeed f 1 ({ kind := 7 }, false))))
end
/-- A kind by its letters. -/
def lettersOf (S : List Nat) : Nat :=
  if S = [82, 77, 67] then 1 else if S = [71, 71, 65] then 2 else if S = [71, 76, 76] then 3 else if S = [71, 83, 65] then 4 else if S = [90, 68, 65] then 5 else if S = [86, 84, 71] then 6 else if S = [71, 83, 86] then 7 else 0
def capital (b : Nat) : Bool := decide (65 ≤ b ∧ b ≤ 90)
/-- A kind by a first field; 0: none. -/
def kindOfN (S : List Nat) : Nat := if S.length < 2 ∨ capital (wd S 0) = false ∨ capital (wd S 1) = false then 0 else lettersOf (S.drop 2)
def leastOf (k : Nat) : Nat := [0, 11, 14, 6, 17, 6, 8, 3].getD k 0
def mostOf (k : Nat) : Nat := [0, 13, 14, 7, 18, 6, 9, 20].getD k 0
/-- What fields tell. -/
def fixOf (fs : List (List Nat)) : Told × Nat :=
  if kindOfN (fs.getD 0 []) = 0 then ({}, 7)
  else if fs.length - 1 < leastOf (kindOfN (fs.getD 0 [])) then ({}, 4)
  else if mostOf (kindOfN (fs.getD 0 [])) < fs.length - 1 then ({}, 3)
  else if (readOf (fun j => fs.getD j []) (kindOfN (fs.getD 0 [])) (fs.length - 1)).2 then ({}, 5)
  else ((readOf (fun j => fs.getD j []) (kindOfN (fs.getD 0 [])) (fs.length - 1)).1, 0)
def fieldsOf (s : ByteArray) : List (List Nat) := (partsB s).map nat
/-- What a body tells. -/
def parseOf (s : ByteArray) : Told × Nat := fixOf (fieldsOf s)

theorem known_zda : parseOf ⟨#[71, 80, 90, 68, 65, 44, 49, 50, 51, 53, 49, 57, 44, 48, 52, 44, 48, 55, 44, 50, 48, 48, 50, 44, 48, 48, 44, 48, 48]⟩ = ({ kind := 5, valid := true, hasTime := true, hasDate := true, time := (12, 35, 19, true), day := 4, month := 7, year := 2002 }, 0) := by kernel_rfl
theorem known_gll : parseOf ⟨#[71, 80, 71, 76, 76, 44, 52, 57, 49, 54, 46, 52, 53, 44, 78, 44, 49, 50, 51, 49, 49, 46, 49, 50, 44, 87, 44, 50, 50, 53, 52, 52, 52, 44, 65]⟩ = ({ kind := 3, valid := true, hasTime := true, hasPos := true, time := (22, 54, 44, true), lat := 295645000, lon := -739112000 }, 0) := by kernel_rfl
theorem known_bad : parseOf ⟨#[71, 80, 90, 68, 65, 44, 50, 52, 54, 48, 48, 48, 44, 48, 52, 44, 48, 55, 44, 50, 48, 48, 50, 44, 48, 48, 44, 48, 48]⟩ = ({}, 5) := by kernel_rfl
end Go.Proofs.YtajgicliepenkaaDoor
