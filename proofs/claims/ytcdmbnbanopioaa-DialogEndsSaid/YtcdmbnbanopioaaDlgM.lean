/-
  Dialogues as plain lists: commands, what became of each, a tick, what is heard, counts. Nothing of the program.
-/
import Derived.Test.YtcdmbnbanopioaaGrew
namespace Go.Proofs.Ytcdmbnbanopioaa
set_option linter.unusedVariables false

/-- A command: its bytes, what it waits for, class, ID. -/
structure Cmd where
  b : List Nat
  wait : Nat
  cls : Nat
  id : Nat
/-- A command of a dialogue: 0 to be sent, 1 in flight, 2 done, 3 failed; when it was sent last, how often. -/
structure DRow where
  c : Cmd
  st : Nat
  sent : Int
  many : Nat
/-- One of which nothing was sent yet. -/
def dlgRow (c : Cmd) : DRow := ⟨c, 0, 0, 0⟩
/-- A command that is sent at a counter. -/
def sentOf (now : Int) (r : DRow) : DRow := ⟨r.c, if r.c.wait = 0 then 2 else 1, now, r.many + 1⟩
/-- A command of which something became. -/
def turnedOf (s : Nat) (r : DRow) : DRow := ⟨r.c, s, r.sent, r.many⟩
/-- The place of the first one that is neither done nor failed; the length, if all are. -/
def firstOf : List DRow → Nat
  | [] => 0
  | r :: rs => if r.st < 2 then 0 else firstOf rs + 1
/-- The first one that is neither done nor failed is sent. -/
def sendL (now : Int) : List DRow → List DRow × Option (List Nat)
  | [] => ([], none)
  | r :: rs => if r.st < 2 then (sentOf now r :: rs, some r.c.b) else (r :: (sendL now rs).1, (sendL now rs).2)
/-- A tick. -/
def tickL (now tmo : Int) (tries : Nat) : List DRow → List DRow × Option (List Nat)
  | [] => ([], none)
  | r :: rs =>
    if r.st < 2 then
      if r.st = 1 then
        if now - r.sent < tmo then (r :: rs, none)
        else if r.many < tries then (sentOf now r :: rs, some r.c.b)
        else (turnedOf 3 r :: (sendL now rs).1, (sendL now rs).2)
      else (sentOf now r :: rs, some r.c.b)
    else (r :: (tickL now tmo tries rs).1, (tickL now tmo tries rs).2)
/-- What a frame acknowledges (what it is for, whether it is good, class, ID) meets a command that waits. -/
def heardBy (wait cls id : Nat) (c : Cmd) : Prop := wait ≠ 0 ∧ wait = c.wait ∧ id = c.id ∧ (wait = 1 → cls = c.cls)
instance (wait cls id : Nat) (c : Cmd) : Decidable (heardBy wait cls id c) := by unfold heardBy; exact inferInstance
/-- A frame: whether it was what the command in flight waited for, and what becomes of it. -/
def hearL (wait : Nat) (good : Bool) (cls id : Nat) : List DRow → List DRow × Bool
  | [] => ([], false)
  | r :: rs =>
    if r.st < 2 then
      if r.st = 1 ∧ heardBy wait cls id r.c then (turnedOf (if good then 2 else 3) r :: rs, true) else (r :: rs, false)
    else (r :: (hearL wait good cls id rs).1, (hearL wait good cls id rs).2)
/-- How many are done, have failed, are neither. -/
def doneOf : List DRow → Nat
  | [] => 0
  | r :: rs => doneOf rs + if r.st = 2 then 1 else 0
def lostOf : List DRow → Nat
  | [] => 0
  | r :: rs => lostOf rs + if r.st = 3 then 1 else 0
def leftOf : List DRow → Nat
  | [] => 0
  | r :: rs => leftOf rs + if r.st < 2 then 1 else 0
/-- Whether one is in flight. -/
def flyOf : List DRow → Bool
  | [] => false
  | r :: rs => if r.st < 2 then decide (r.st = 1) else flyOf rs

theorem first_le : ∀ l : List DRow, firstOf l ≤ l.length
  | [] => Nat.le_refl _
  | r :: rs => by
    rw [firstOf]
    have h := first_le rs
    split <;> simp only [List.length_cons] <;> omega
/-- Ahead of the first one each is done or has failed. -/
theorem first_ahead : ∀ (l : List DRow) (i : Nat) (h : i < l.length), i < firstOf l → 2 ≤ (l[i]).st
  | [], i, h, _ => absurd h (Nat.not_lt_zero _)
  | r :: rs, i, h, hi => by
    rw [firstOf] at hi
    split at hi
    · omega
    · rename_i hr
      match i, h with
      | 0, _ => simp only [List.getElem_cons_zero]; omega
      | i + 1, h => exact first_ahead rs i (by simpa using h) (by omega)
/-- The first one is neither. -/
theorem first_at : ∀ (l : List DRow) (h : firstOf l < l.length), (l[firstOf l]).st < 2
  | [], h => absurd h (Nat.not_lt_zero _)
  | r :: rs, h => by
    by_cases hr : r.st < 2
    · have e : firstOf (r :: rs) = 0 := by rw [firstOf, if_pos hr]
      simp only [e, List.getElem_cons_zero]; exact hr
    · have e : firstOf (r :: rs) = firstOf rs + 1 := by rw [firstOf, if_neg hr]
      simp only [e, List.getElem_cons_succ]
      exact first_at rs (by rw [e] at h; simpa using h)
/-- A place ahead of which all are done or have failed, and that is neither, is the first one. -/
theorem first_of : ∀ (l : List DRow) (i : Nat) (h : i < l.length), (∀ j (hj : j < i), 2 ≤ (l[j]'(Nat.lt_trans hj h)).st) →
    (l[i]).st < 2 → firstOf l = i
  | [], i, h, _, _ => absurd h (Nat.not_lt_zero _)
  | r :: rs, 0, h, _, hi => by
    rw [firstOf, if_pos (by simpa using hi)]
  | r :: rs, i + 1, h, ha, hi => by
    have h0 : 2 ≤ r.st := by simpa using ha 0 (Nat.succ_pos _)
    rw [firstOf, if_neg (by omega), first_of rs i (by simpa using h) (fun j hj => by
      have h := ha (j + 1) (by omega)
      simpa using h) (by simpa using hi)]
theorem first_all : ∀ (l : List DRow), (∀ j (hj : j < l.length), 2 ≤ (l[j]).st) → firstOf l = l.length
  | [], _ => rfl
  | r :: rs, ha => by
    have h0 : 2 ≤ r.st := ha 0 (Nat.succ_pos _)
    rw [firstOf, if_neg (by omega), first_all rs (fun j hj => by
      have h := ha (j + 1) (by simpa using hj)
      simpa using h)]
    rfl

/-- What a send, a tick, a frame leaves, by the first one's place. -/
theorem send_all : ∀ (now : Int) (l : List DRow), firstOf l = l.length → sendL now l = (l, none)
  | now, [], _ => rfl
  | now, r :: rs, h => by
    rw [firstOf] at h
    split at h
    · simp at h
    · rename_i hr
      rw [sendL, if_neg hr, send_all now rs (by simpa using h)]
theorem send_at : ∀ (now : Int) (l : List DRow) (h : firstOf l < l.length),
    sendL now l = (l.set (firstOf l) (sentOf now l[firstOf l]), some (l[firstOf l]).c.b)
  | now, [], h => absurd h (Nat.not_lt_zero _)
  | now, r :: rs, h => by
    by_cases hr : r.st < 2
    · have e : firstOf (r :: rs) = 0 := by rw [firstOf, if_pos hr]
      simp only [e, List.getElem_cons_zero, List.set_cons_zero]
      rw [sendL, if_pos hr]
    · have e : firstOf (r :: rs) = firstOf rs + 1 := by rw [firstOf, if_neg hr]
      simp only [e, List.getElem_cons_succ, List.set_cons_succ]
      rw [sendL, if_neg hr, send_at now rs (by rw [e] at h; simpa using h)]
theorem tick_all : ∀ (now tmo : Int) (tries : Nat) (l : List DRow), firstOf l = l.length → tickL now tmo tries l = (l, none)
  | now, tmo, tries, [], _ => rfl
  | now, tmo, tries, r :: rs, h => by
    rw [firstOf] at h
    split at h
    · simp at h
    · rename_i hr
      rw [tickL, if_neg hr, tick_all now tmo tries rs (by simpa using h)]
theorem tick_new : ∀ (now tmo : Int) (tries : Nat) (l : List DRow) (h : firstOf l < l.length), (l[firstOf l]).st ≠ 1 →
    tickL now tmo tries l = sendL now l
  | now, tmo, tries, [], h, _ => absurd h (Nat.not_lt_zero _)
  | now, tmo, tries, r :: rs, h, h1 => by
    by_cases hr : r.st < 2
    · have e : firstOf (r :: rs) = 0 := by rw [firstOf, if_pos hr]
      simp only [e, List.getElem_cons_zero] at h1
      rw [sendL, tickL, if_pos hr, if_pos hr, if_neg h1]
    · have e : firstOf (r :: rs) = firstOf rs + 1 := by rw [firstOf, if_neg hr]
      simp only [e, List.getElem_cons_succ] at h1
      rw [sendL, tickL, if_neg hr, if_neg hr, tick_new now tmo tries rs (by rw [e] at h; simpa using h) h1]
theorem tick_young : ∀ (now tmo : Int) (tries : Nat) (l : List DRow) (h : firstOf l < l.length), (l[firstOf l]).st = 1 →
    now - (l[firstOf l]).sent < tmo → tickL now tmo tries l = (l, none)
  | now, tmo, tries, [], h, _, _ => absurd h (Nat.not_lt_zero _)
  | now, tmo, tries, r :: rs, h, h1, hy => by
    by_cases hr : r.st < 2
    · have e : firstOf (r :: rs) = 0 := by rw [firstOf, if_pos hr]
      simp only [e, List.getElem_cons_zero] at h1 hy
      rw [tickL, if_pos hr, if_pos h1, if_pos hy]
    · have e : firstOf (r :: rs) = firstOf rs + 1 := by rw [firstOf, if_neg hr]
      simp only [e, List.getElem_cons_succ] at h1 hy
      rw [tickL, if_neg hr, tick_young now tmo tries rs (by rw [e] at h; simpa using h) h1 hy]
theorem tick_again : ∀ (now tmo : Int) (tries : Nat) (l : List DRow) (h : firstOf l < l.length), (l[firstOf l]).st = 1 →
    ¬ now - (l[firstOf l]).sent < tmo → (l[firstOf l]).many < tries → tickL now tmo tries l = sendL now l
  | now, tmo, tries, [], h, _, _, _ => absurd h (Nat.not_lt_zero _)
  | now, tmo, tries, r :: rs, h, h1, hy, hm => by
    by_cases hr : r.st < 2
    · have e : firstOf (r :: rs) = 0 := by rw [firstOf, if_pos hr]
      simp only [e, List.getElem_cons_zero] at h1 hy hm
      rw [sendL, tickL, if_pos hr, if_pos h1, if_neg hy, if_pos hm, if_pos hr]
    · have e : firstOf (r :: rs) = firstOf rs + 1 := by rw [firstOf, if_neg hr]
      simp only [e, List.getElem_cons_succ] at h1 hy hm
      rw [sendL, tickL, if_neg hr, if_neg hr, tick_again now tmo tries rs (by rw [e] at h; simpa using h) h1 hy hm]
theorem tick_fail : ∀ (now tmo : Int) (tries : Nat) (l : List DRow) (h : firstOf l < l.length), (l[firstOf l]).st = 1 →
    ¬ now - (l[firstOf l]).sent < tmo → ¬ (l[firstOf l]).many < tries →
    tickL now tmo tries l = sendL now (l.set (firstOf l) (turnedOf 3 l[firstOf l]))
  | now, tmo, tries, [], h, _, _, _ => absurd h (Nat.not_lt_zero _)
  | now, tmo, tries, r :: rs, h, h1, hy, hm => by
    by_cases hr : r.st < 2
    · have e : firstOf (r :: rs) = 0 := by rw [firstOf, if_pos hr]
      simp only [e, List.getElem_cons_zero, List.set_cons_zero] at h1 hy hm ⊢
      rw [sendL, tickL, if_pos hr, if_pos h1, if_neg hy, if_neg hm, if_neg (show ¬ (turnedOf 3 r).st < 2 from by show ¬ (3 : Nat) < 2; omega)]
    · have e : firstOf (r :: rs) = firstOf rs + 1 := by rw [firstOf, if_neg hr]
      simp only [e, List.getElem_cons_succ, List.set_cons_succ] at h1 hy hm ⊢
      rw [sendL, tickL, if_neg hr, if_neg hr, tick_fail now tmo tries rs (by rw [e] at h; simpa using h) h1 hy hm]
theorem hear_all : ∀ (wait : Nat) (good : Bool) (cls id : Nat) (l : List DRow), firstOf l = l.length →
    hearL wait good cls id l = (l, false)
  | wait, good, cls, id, [], _ => rfl
  | wait, good, cls, id, r :: rs, h => by
    rw [firstOf] at h
    split at h
    · simp at h
    · rename_i hr
      rw [hearL, if_neg hr, hear_all wait good cls id rs (by simpa using h)]
theorem hear_at : ∀ (wait : Nat) (good : Bool) (cls id : Nat) (l : List DRow) (h : firstOf l < l.length),
    hearL wait good cls id l = if (l[firstOf l]).st = 1 ∧ heardBy wait cls id (l[firstOf l]).c
      then (l.set (firstOf l) (turnedOf (if good then 2 else 3) l[firstOf l]), true) else (l, false)
  | wait, good, cls, id, [], h => absurd h (Nat.not_lt_zero _)
  | wait, good, cls, id, r :: rs, h => by
    by_cases hr : r.st < 2
    · have e : firstOf (r :: rs) = 0 := by rw [firstOf, if_pos hr]
      simp only [e, List.getElem_cons_zero, List.set_cons_zero]
      rw [hearL, if_pos hr]
    · have e : firstOf (r :: rs) = firstOf rs + 1 := by rw [firstOf, if_neg hr]
      simp only [e, List.getElem_cons_succ, List.set_cons_succ]
      rw [hearL, if_neg hr, hear_at wait good cls id rs (by rw [e] at h; simpa using h)]
      split <;> rfl
theorem fly_all : ∀ (l : List DRow), firstOf l = l.length → flyOf l = false
  | [], _ => rfl
  | r :: rs, h => by
    rw [firstOf] at h
    split at h
    · simp at h
    · rename_i hr
      rw [flyOf, if_neg hr, fly_all rs (by simpa using h)]
theorem fly_at : ∀ (l : List DRow) (h : firstOf l < l.length), flyOf l = decide ((l[firstOf l]).st = 1)
  | [], h => absurd h (Nat.not_lt_zero _)
  | r :: rs, h => by
    by_cases hr : r.st < 2
    · have e : firstOf (r :: rs) = 0 := by rw [firstOf, if_pos hr]
      simp only [e, List.getElem_cons_zero]
      rw [flyOf, if_pos hr]
    · have e : firstOf (r :: rs) = firstOf rs + 1 := by rw [firstOf, if_neg hr]
      simp only [e, List.getElem_cons_succ]
      rw [flyOf, if_neg hr, fly_at rs (by rw [e] at h; simpa using h)]

/- Ticks a timeout apart. -/

/-- Of these nothing was sent yet. -/
def Fresh (l : List DRow) : Prop := ∀ r ∈ l, r.st = 0 ∧ r.many = 0
/-- Done or failed, as what waits for nothing, for something ends. -/
def Ended (r : DRow) : Prop := r.c.wait = 0 ∧ r.st = 2 ∨ r.c.wait ≠ 0 ∧ r.st = 3
/-- Some ended, one in flight that was sent at the last counter, the others not sent. -/
inductive Going (tries : Nat) (now : Int) : List DRow → Prop
  | new {l} : Fresh l → Going tries now l
  | fly {r l} : r.st = 1 → r.c.wait ≠ 0 → r.many ≤ tries → r.sent = now → Fresh l → Going tries now (r :: l)
  | fin {r l} : Ended r → Going tries now l → Going tries now (r :: l)
/-- How often they are to be sent. -/
def needOf (tries : Nat) : List DRow → Nat
  | [] => 0
  | r :: rs => needOf tries rs + if r.st = 0 then (if r.c.wait = 0 then 1 else tries) else if r.st = 1 then tries - r.many else 0
theorem send_going {tries : Nat} (ht : 0 < tries) (now : Int) : ∀ l : List DRow, Fresh l →
    Going tries now (sendL now l).1 ∧ needOf tries (sendL now l).1 = needOf tries l - 1 ∧
    ((sendL now l).2.isSome = true ↔ 0 < needOf tries l) ∧ (needOf tries l = 0 → ∀ r ∈ (sendL now l).1, Ended r)
  | [], _ => ⟨.new (fun r h => by simp [sendL] at h), rfl, by simp [sendL, needOf], fun _ r h => by simp [sendL] at h⟩
  | r :: rs, h => by
    have h0 := h r (by simp)
    have hs : Fresh rs := fun x hx => h x (by simp [hx])
    have hn : 0 < needOf tries (r :: rs) := by
      rw [needOf, if_pos h0.1]; split <;> omega
    rw [sendL, if_pos (by omega)]
    by_cases hw : r.c.wait = 0
    · refine ⟨.fin (.inl ⟨hw, ?_⟩) (.new hs), ?_, ⟨fun _ => hn, fun _ => rfl⟩, fun h => absurd h (by omega)⟩
      · show (sentOf now r).st = 2
        simp [sentOf, hw]
      · simp only [needOf, sentOf, hw, h0.1, if_true]; simp
    · refine ⟨.fly ?_ hw ?_ rfl hs, ?_, ⟨fun _ => hn, fun _ => rfl⟩, fun h => absurd h (by omega)⟩
      · show (sentOf now r).st = 1
        simp [sentOf, hw]
      · show r.many + 1 ≤ tries
        omega
      · simp only [needOf, sentOf, hw, h0.1, h0.2, if_false, if_true]; simp; omega
/-- A tick a timeout behind the last one: one send less is left; where none was left, all have ended. -/
theorem tick_going {tries : Nat} (ht : 0 < tries) (tmo now now' : Int) (hp : tmo ≤ now' - now) : ∀ l : List DRow, Going tries now l →
    Going tries now' (tickL now' tmo tries l).1 ∧ needOf tries (tickL now' tmo tries l).1 = needOf tries l - 1 ∧
    ((tickL now' tmo tries l).2.isSome = true ↔ 0 < needOf tries l) ∧
    (needOf tries l = 0 → ∀ r ∈ (tickL now' tmo tries l).1, Ended r) := by
  intro l hg
  induction hg with
  | @new l h =>
    have e : tickL now' tmo tries l = sendL now' l := by
      cases l with
      | nil => rfl
      | cons r rs =>
        have h0 := h r (by simp)
        rw [tickL, sendL, if_pos (show r.st < 2 from by omega), if_pos (show r.st < 2 from by omega), if_neg (show ¬ r.st = 1 from by omega)]
    rw [e]
    exact send_going ht now' l h
  | @fly r l h1 hw hm hs hf =>
    have hy : ¬ now' - r.sent < tmo := by omega
    rw [tickL, if_pos (by omega), if_pos h1, if_neg hy]
    by_cases hk : r.many < tries
    · rw [if_pos hk]
      have hn : 0 < needOf tries (r :: l) := by rw [needOf, if_neg (by omega), if_pos h1]; omega
      refine ⟨.fly (by simp [sentOf, hw]) hw (by show r.many + 1 ≤ tries; omega) rfl hf, ?_, ⟨fun _ => hn, fun _ => rfl⟩,
        fun h => absurd h (by omega)⟩
      simp only [needOf, sentOf, hw, h1, if_false, if_true]; simp; omega
    · rw [if_neg hk]
      have g := send_going ht now' l hf
      have en : needOf tries (r :: l) = needOf tries l := by rw [needOf, if_neg (by omega), if_pos h1]; omega
      have ed : Ended (turnedOf 3 r) := .inr ⟨hw, rfl⟩
      rw [en]
      refine ⟨.fin ed g.1, ?_, g.2.2.1, fun h x hx => ?_⟩
      · show needOf tries (turnedOf 3 r :: (sendL now' l).1) = _
        rw [needOf, g.2.1]; simp [turnedOf]
      · rcases List.mem_cons.1 hx with rfl | hx
        · exact ed
        · exact g.2.2.2 h x hx
  | @fin r l he hg ih =>
    have h2 : ¬ r.st < 2 := by rcases he with h | h <;> omega
    rw [tickL, if_neg h2]
    have en : ∀ l, needOf tries (r :: l) = needOf tries l := fun l => by rw [needOf, if_neg (by omega), if_neg (by omega)]; rfl
    rw [en l]
    refine ⟨.fin he ih.1, ?_, ih.2.2.1, fun h x hx => ?_⟩
    · show needOf tries (r :: (tickL now' tmo tries l).1) = _
      rw [en, ih.2.1]
    · rcases List.mem_cons.1 hx with rfl | hx
      · exact he
      · exact ih.2.2.2 h x hx

theorem need_fresh (tries : Nat) : ∀ cs : List Cmd, needOf tries (cs.map dlgRow) = (cs.map fun c => if c.wait = 0 then 1 else tries).sum
  | [] => rfl
  | c :: cs => by
    rw [List.map_cons, needOf, need_fresh tries cs, List.map_cons, List.sum_cons, if_pos (show (dlgRow c).st = 0 from rfl)]; exact Nat.add_comm _ _
theorem fresh_rows (cs : List Cmd) : Fresh (cs.map dlgRow) := fun r h => by
  obtain ⟨c, _, rfl⟩ := List.mem_map.1 h; exact ⟨rfl, rfl⟩
/-- A row's command stays. -/
theorem send_cmds (now : Int) : ∀ l : List DRow, (sendL now l).1.map DRow.c = l.map DRow.c
  | [] => rfl
  | r :: rs => by
    rw [sendL]; split
    · rfl
    · rw [List.map_cons, send_cmds now rs]; rfl
theorem tick_cmds (now tmo : Int) (tries : Nat) : ∀ l : List DRow, (tickL now tmo tries l).1.map DRow.c = l.map DRow.c
  | [] => rfl
  | r :: rs => by
    rw [tickL]; split
    · split
      · split
        · rfl
        · split
          · rfl
          · rw [List.map_cons, send_cmds now rs]; rfl
      · rfl
    · rw [List.map_cons, tick_cmds now tmo tries rs]; rfl
theorem hear_cmds (wait : Nat) (good : Bool) (cls id : Nat) : ∀ l : List DRow, (hearL wait good cls id l).1.map DRow.c = l.map DRow.c
  | [] => rfl
  | r :: rs => by
    rw [hearL]; split
    · split <;> rfl
    · rw [List.map_cons, hear_cmds wait good cls id rs]; rfl
/-- What the counts of ended ones are. -/
theorem ended_counts : ∀ l : List DRow, (∀ r ∈ l, Ended r) →
    doneOf l = ((l.map DRow.c).map fun c => if c.wait = 0 then 1 else 0).sum ∧
    lostOf l = ((l.map DRow.c).map fun c => if c.wait = 0 then 0 else 1).sum ∧ leftOf l = 0 ∧ flyOf l = false
  | [], _ => ⟨rfl, rfl, rfl, rfl⟩
  | r :: rs, h => by
    have ih := ended_counts rs (fun x hx => h x (by simp [hx]))
    have h0 := h r (by simp)
    rw [doneOf, lostOf, leftOf, flyOf, ih.1, ih.2.1, ih.2.2.1, ih.2.2.2]
    simp only [List.map_cons, List.sum_cons]
    rcases h0 with ⟨hw, hs⟩ | ⟨hw, hs⟩
    · simp [hw, hs]; omega
    · simp [hw, hs]; omega

/-- A dialogue: its commands, the timeout, tries, the greatest counter, and whether one came. -/
structure Dlg where
  rows : List DRow
  tmo : Int
  tries : Nat
  now : Int
  came : Bool
def dlgNew (cs : List Cmd) (tmo : Int) (tries : Nat) : Dlg := ⟨cs.map dlgRow, tmo, tries, 0, false⟩
/-- The counter that counts. -/
def Dlg.at (d : Dlg) (t : Int) : Int := if d.came = false ∨ d.now < t then t else d.now
def Dlg.tick (d : Dlg) (t : Int) : Dlg × Option (List Nat) :=
  (⟨(tickL (d.at t) d.tmo d.tries d.rows).1, d.tmo, d.tries, d.at t, true⟩, (tickL (d.at t) d.tmo d.tries d.rows).2)
def Dlg.hear (d : Dlg) (wait : Nat) (good : Bool) (cls id : Nat) : Dlg × Bool :=
  (⟨(hearL wait good cls id d.rows).1, d.tmo, d.tries, d.now, d.came⟩, (hearL wait good cls id d.rows).2)
/-- What stands behind k ticks a timeout apart from 0 on, and how often one was sent. -/
def ticksTo (d : Dlg) : Nat → Dlg × Nat
  | 0 => (d, 0)
  | k + 1 => (((ticksTo d k).1.tick (k * d.tmo)).1,
    (ticksTo d k).2 + if ((ticksTo d k).1.tick (k * d.tmo)).2.isSome then 1 else 0)
def wantOf (tries : Nat) (cs : List Cmd) : Nat := (cs.map fun c => if c.wait = 0 then 1 else tries).sum
theorem ticks_going (cs : List Cmd) (tmo : Int) (tries : Nat) (ht : 0 < tries) (hp : 0 < tmo) : ∀ k : Nat,
    ((ticksTo (dlgNew cs tmo tries) k).1.tmo = tmo ∧ (ticksTo (dlgNew cs tmo tries) k).1.tries = tries ∧
      (ticksTo (dlgNew cs tmo tries) k).1.rows.map DRow.c = cs) ∧
    (k = 0 → (ticksTo (dlgNew cs tmo tries) k).1.came = false) ∧ (0 < k → (ticksTo (dlgNew cs tmo tries) k).1.came = true ∧ (ticksTo (dlgNew cs tmo tries) k).1.now = (k - 1) * tmo) ∧
    Going tries ((k - 1) * tmo) (ticksTo (dlgNew cs tmo tries) k).1.rows ∧
    needOf tries (ticksTo (dlgNew cs tmo tries) k).1.rows = wantOf tries cs - k ∧
    (ticksTo (dlgNew cs tmo tries) k).2 = min k (wantOf tries cs) ∧
    (wantOf tries cs < k → ∀ r ∈ (ticksTo (dlgNew cs tmo tries) k).1.rows, Ended r)
  | 0 => by
    refine ⟨⟨rfl, rfl, ?_⟩, fun _ => rfl, fun h => absurd h (Nat.lt_irrefl _), .new (fresh_rows cs), ?_, ?_, fun h => absurd h (Nat.not_lt_zero _)⟩
    · show ((cs.map dlgRow).map DRow.c) = cs
      rw [List.map_map]
      exact (List.map_congr_left (fun _ _ => rfl)).trans (List.map_id _)
    · exact need_fresh tries cs
    · exact (Nat.zero_min _).symm
  | k + 1 => by
    obtain ⟨⟨e1, e2, e3⟩, hz, hn, hg, hd, hs, he⟩ := ticks_going cs tmo tries ht hp k
    have et : (dlgNew cs tmo tries).tmo = tmo := rfl
    simp only [ticksTo, et]
    generalize ticksTo (dlgNew cs tmo tries) k = q at *
    have ea : q.1.at (k * tmo) = k * tmo := by
      rw [Dlg.at]
      by_cases h0 : 0 < k
      · have hh := hn h0
        rw [if_pos]; right; rw [hh.2]
        have : ((k : Int) - 1) * tmo = k * tmo - tmo := by rw [Int.sub_mul, Int.one_mul]
        omega
      · have hk : k = 0 := by omega
        rw [if_pos]; left; exact hz hk
    have em : ((k : Int) - 1) * tmo = k * tmo - tmo := by rw [Int.sub_mul, Int.one_mul]
    have g := tick_going ht tmo ((k - 1) * tmo) (k * tmo) (by rw [em]; omega) q.1.rows hg
    have ek : (((k + 1 : Nat) : Int) - 1) * tmo = k * tmo := by
      rw [show (((k + 1 : Nat) : Int) - 1) = k from by omega]
    simp only [Dlg.tick, ea, e1, e2, ek]
    refine ⟨⟨trivial, trivial, ?_⟩, fun h => absurd h (Nat.succ_ne_zero _), fun _ => ⟨trivial, trivial⟩, g.1, ?_, ?_, fun hk => g.2.2.2 (by rw [hd]; omega)⟩
    · rw [tick_cmds]; exact e3
    · rw [g.2.1, hd]; omega
    · rw [hs]
      by_cases hk : k < wantOf tries cs
      · rw [if_pos (g.2.2.1.2 (by rw [hd]; omega))]; omega
      · rw [if_neg (fun h => absurd (g.2.2.1.1 h) (by rw [hd]; omega))]; omega

/- What stays so whatever comes. -/

/-- Some ended, one in flight that was sent at no later counter, the others not sent; none was sent more often than it has tries. -/
inductive Sound (tries : Nat) (now : Int) : List DRow → Prop
  | new {l} : Fresh l → Sound tries now l
  | fly {r l} : r.st = 1 → r.many ≤ tries → r.sent ≤ now → Fresh l → Sound tries now (r :: l)
  | fin {r l} : 2 ≤ r.st → r.many ≤ tries → Sound tries now l → Sound tries now (r :: l)
theorem Sound.later {tries : Nat} {now now' : Int} (h : now ≤ now') : ∀ {l : List DRow}, Sound tries now l → Sound tries now' l := by
  intro l hs
  induction hs with
  | new hf => exact .new hf
  | fly h1 hm ht hf => exact .fly h1 hm (by omega) hf
  | fin h2 hm _ ih => exact .fin h2 hm ih
theorem sound_send {tries : Nat} (ht : 0 < tries) (now : Int) : ∀ l : List DRow, Fresh l → Sound tries now (sendL now l).1
  | [], _ => .new (fun r h => by simp [sendL] at h)
  | r :: rs, h => by
    have h0 := h r (by simp)
    have hs : Fresh rs := fun x hx => h x (by simp [hx])
    rw [sendL, if_pos (by omega)]
    by_cases hw : r.c.wait = 0
    · exact .fin (by simp [sentOf, hw]) (by show r.many + 1 ≤ tries; omega) (.new hs)
    · exact .fly (by simp [sentOf, hw]) (by show r.many + 1 ≤ tries; omega) (Int.le_refl _) hs
theorem sound_tick {tries : Nat} (ht : 0 < tries) (tmo now : Int) : ∀ l : List DRow, Sound tries now l → Sound tries now (tickL now tmo tries l).1 := by
  intro l hg
  induction hg with
  | @new l h =>
    have e : tickL now tmo tries l = sendL now l := by
      cases l with
      | nil => rfl
      | cons r rs =>
        have h0 := h r (by simp)
        rw [tickL, sendL, if_pos (show r.st < 2 from by omega), if_pos (show r.st < 2 from by omega), if_neg (show ¬ r.st = 1 from by omega)]
    rw [e]
    exact sound_send ht now l h
  | @fly r l h1 hm hs hf =>
    rw [tickL, if_pos (by omega), if_pos h1]
    split
    · exact .fly h1 hm hs hf
    · split
      · by_cases hw : r.c.wait = 0
        · exact .fin (by simp [sentOf, hw]) (by show r.many + 1 ≤ tries; omega) (.new hf)
        · exact .fly (by simp [sentOf, hw]) (by show r.many + 1 ≤ tries; omega) (Int.le_refl _) hf
      · exact .fin (by show 2 ≤ 3; omega) hm (sound_send ht now l hf)
  | @fin r l h2 hm hg ih =>
    rw [tickL, if_neg (by omega)]
    exact .fin h2 hm ih
theorem sound_hear {tries : Nat} {now : Int} (wait : Nat) (good : Bool) (cls id : Nat) : ∀ l : List DRow, Sound tries now l → Sound tries now (hearL wait good cls id l).1 := by
  intro l hg
  induction hg with
  | @new l h =>
    cases l with
    | nil => exact .new h
    | cons r rs =>
      have h0 := h r (by simp)
      rw [hearL, if_pos (by omega), if_neg (fun e => by omega)]
      exact .new h
  | @fly r l h1 hm hs hf =>
    rw [hearL, if_pos (by omega)]
    split
    · exact .fin (by show 2 ≤ (if good = true then 2 else 3); split <;> omega) hm (.new hf)
    · exact .fly h1 hm hs hf
  | @fin r l h2 hm hg ih =>
    rw [hearL, if_neg (by omega)]
    exact .fin h2 hm ih
/-- The first one: not sent, or in flight; the ones behind it not sent. -/
theorem Sound.first {tries : Nat} {now : Int} : ∀ {l : List DRow}, Sound tries now l → ∀ h : firstOf l < l.length,
    ((l[firstOf l]).st = 0 ∧ (l[firstOf l]).many = 0 ∨ (l[firstOf l]).st = 1 ∧ (l[firstOf l]).many ≤ tries ∧ (l[firstOf l]).sent ≤ now) := by
  intro l hs
  induction hs with
  | @new l h =>
    intro hl
    exact .inl (h _ (List.getElem_mem hl))
  | @fly r l h1 hm ht hf =>
    intro hl
    have e : firstOf (r :: l) = 0 := by rw [firstOf, if_pos (by omega)]
    simp only [e, List.getElem_cons_zero]
    exact .inr ⟨h1, hm, ht⟩
  | @fin r l h2 hm _ ih =>
    intro hl
    have e : firstOf (r :: l) = firstOf l + 1 := by rw [firstOf, if_neg (by omega)]
    simp only [e, List.getElem_cons_succ]
    exact ih (by rw [e] at hl; simpa using hl)
end Go.Proofs.Ytcdmbnbanopioaa
