/-
  Dialogues as the program holds them, plain: those that ended, one in flight, those that were not sent.
  The program's dialogue behind a pointer: what stands where; whether it was made, whether one is in flight, how many are done.
  The program's dialogue: what is written where: its seven cells; the one in flight.
-/
import Derived.Test.YtcdmbnbanopioaaDllA
namespace Go.Proofs.Ytcdmbnbanopioaa
open Go.RowKit
set_option linter.unusedVariables false

/- Dialogues as the program holds them, plain: those that ended, one in flight, those that were not sent. -/
/-- Rows: those that ended, one in flight, those not sent. -/
structure Parts (rs E : List DRow) (fl : Option DRow) (W : List DRow) : Prop where
  eq : rs = E ++ (fl.toList ++ W)
  ends : ∀ r ∈ E, 2 ≤ r.st
  fly : ∀ r, fl = some r → r.st = 1 ∧ r.c.wait ≠ 0
  new : Fresh W
theorem send_app (now : Int) : ∀ (E l : List DRow), (∀ r ∈ E, 2 ≤ r.st) → sendL now (E ++ l) = (E ++ (sendL now l).1, (sendL now l).2)
  | [], l, _ => rfl
  | r :: E, l, h => by
    have h0 := h r (by simp)
    rw [List.cons_append, sendL, if_neg (by omega), send_app now E l (fun x hx => h x (by simp [hx]))]
    rfl
theorem tick_app (now tmo : Int) (tries : Nat) : ∀ (E l : List DRow), (∀ r ∈ E, 2 ≤ r.st) → tickL now tmo tries (E ++ l) = (E ++ (tickL now tmo tries l).1, (tickL now tmo tries l).2)
  | [], l, _ => rfl
  | r :: E, l, h => by
    have h0 := h r (by simp)
    rw [List.cons_append, tickL, if_neg (by omega), tick_app now tmo tries E l (fun x hx => h x (by simp [hx]))]
    rfl
theorem hear_app (wait : Nat) (good : Bool) (cls id : Nat) : ∀ (E l : List DRow), (∀ r ∈ E, 2 ≤ r.st) → hearL wait good cls id (E ++ l) = (E ++ (hearL wait good cls id l).1, (hearL wait good cls id l).2)
  | [], l, _ => rfl
  | r :: E, l, h => by
    have h0 := h r (by simp)
    rw [List.cons_append, hearL, if_neg (by omega), hear_app wait good cls id E l (fun x hx => h x (by simp [hx]))]
    rfl
theorem fly_app : ∀ (E l : List DRow), (∀ r ∈ E, 2 ≤ r.st) → flyOf (E ++ l) = flyOf l
  | [], l, _ => rfl
  | r :: E, l, h => by
    have h0 := h r (by simp)
    rw [List.cons_append, flyOf, if_neg (by omega), fly_app E l (fun x hx => h x (by simp [hx]))]
theorem left_app : ∀ (E l : List DRow), (∀ r ∈ E, 2 ≤ r.st) → leftOf (E ++ l) = leftOf l
  | [], l, _ => rfl
  | r :: E, l, h => by
    have h0 := h r (by simp)
    rw [List.cons_append, leftOf, if_neg (by omega), left_app E l (fun x hx => h x (by simp [hx]))]
    rfl
theorem done_app : ∀ (E l : List DRow), doneOf (E ++ l) = doneOf E + doneOf l
  | [], l => by rw [List.nil_append, doneOf]; omega
  | r :: E, l => by rw [List.cons_append, doneOf, doneOf, done_app E l]; omega
theorem lost_app : ∀ (E l : List DRow), lostOf (E ++ l) = lostOf E + lostOf l
  | [], l => by rw [List.nil_append, lostOf]; omega
  | r :: E, l => by rw [List.cons_append, lostOf, lostOf, lost_app E l]; omega
theorem done_le : ∀ E : List DRow, doneOf E ≤ E.length
  | [] => Nat.le_refl _
  | r :: E => by
    have := done_le E
    rw [doneOf, List.length_cons]
    split <;> omega
theorem lost_le : ∀ E : List DRow, lostOf E ≤ E.length
  | [] => Nat.le_refl _
  | r :: E => by
    have := lost_le E
    rw [lostOf, List.length_cons]
    split <;> omega
theorem fresh_counts : ∀ l : List DRow, Fresh l → doneOf l = 0 ∧ lostOf l = 0 ∧ leftOf l = l.length ∧ flyOf l = false
  | [], _ => ⟨rfl, rfl, rfl, rfl⟩
  | r :: l, h => by
    have h0 := (h r (by simp)).1
    obtain ⟨a, b, c, d⟩ := fresh_counts l (fun x hx => h x (by simp [hx]))
    refine ⟨by rw [doneOf, a, h0]; rfl, by rw [lostOf, b, h0]; rfl, by rw [leftOf, c, h0]; rfl, ?_⟩
    rw [flyOf, if_pos (by omega), h0]; rfl
section
variable {rs E W : List DRow} {fl : Option DRow} {r : DRow}
/-- What it counts. -/
theorem Parts.counts (h : Parts rs E fl W) : doneOf rs = doneOf E ∧ lostOf rs = lostOf E ∧ leftOf rs = W.length + (if fl.isSome then 1 else 0) ∧ flyOf rs = fl.isSome := by
  obtain ⟨e, he, hf, hw⟩ := h
  obtain ⟨a, b, c, d⟩ := fresh_counts W hw
  subst e
  rw [done_app, lost_app, left_app _ _ he, fly_app _ _ he]
  cases fl with
  | none => exact ⟨by simp [a], by simp [b], by simp [c], by simp [d]⟩
  | some r =>
    have h1 := (hf r rfl).1
    simp only [Option.toList, List.cons_append, List.nil_append, Option.isSome]
    rw [doneOf, lostOf, leftOf, flyOf, a, b, c, h1]
    exact ⟨by simp, by simp, by simp, by simp⟩
theorem Parts.sound_fly {tries : Nat} {now : Int} : ∀ {E W : List DRow} {r : DRow}, Sound tries now (E ++ r :: W) → (∀ e ∈ E, 2 ≤ e.st) → r.st = 1 → r.many ≤ tries ∧ r.sent ≤ now := by
  intro E
  induction E with
  | nil =>
    intro W r h _ h1
    cases h with
    | new hf => have := (hf r (by simp)).1; omega
    | fly _ hm hs _ => exact ⟨hm, hs⟩
    | fin h2 _ _ => omega
  | cons e E ih =>
    intro W r h he h1
    have h0 := he e (by simp)
    cases h with
    | new hf => have := (hf e (by simp)).1; omega
    | fly h3 _ _ _ => omega
    | fin _ _ hs => exact ih hs (fun x hx => he x (by simp [hx])) h1
theorem ends_more (h : ∀ e ∈ E, 2 ≤ e.st) (hr : 2 ≤ r.st) : ∀ e ∈ E ++ [r], 2 ≤ e.st := fun e he => by
  rcases List.mem_append.1 he with q | q
  · exact h e q
  · simp at q; subst q; exact hr
theorem Fresh.tail {r : DRow} {W : List DRow} (h : Fresh (r :: W)) : Fresh W := fun x hx => h x (by simp [hx])
/-- A tick where none is in flight: as a send. -/
theorem Parts.tick_none (h : Parts rs E none W) (now tmo : Int) (tries : Nat) : tickL now tmo tries rs = (E ++ (sendL now W).1, (sendL now W).2) := by
  rw [h.eq, tick_app _ _ _ _ _ h.ends]
  have e : tickL now tmo tries W = sendL now W := by
    cases W with
    | nil => rfl
    | cons q W =>
      have h0 := (h.new q (by simp)).1
      rw [tickL, sendL, if_pos (show q.st < 2 by omega), if_pos (show q.st < 2 by omega), if_neg (by omega)]
  simp only [Option.toList, List.nil_append]
  rw [e]
theorem send_new {q : DRow} {W : List DRow} (h : Fresh (q :: W)) (now : Int) : sendL now (q :: W) = (sentOf now q :: W, some q.c.b) := by
  have h0 := (h q (by simp)).1
  rw [sendL, if_pos (by omega)]
theorem Parts.tick_young (h : Parts rs E (some r) W) (now tmo : Int) (tries : Nat) (hy : now - r.sent < tmo) : tickL now tmo tries rs = (rs, none) := by
  have h1 := (h.fly r rfl).1
  rw [h.eq, tick_app _ _ _ _ _ h.ends]
  simp only [Option.toList, List.cons_append, List.nil_append]
  rw [tickL, if_pos (by omega), if_pos h1, if_pos hy]
theorem Parts.tick_again (h : Parts rs E (some r) W) (now tmo : Int) (tries : Nat) (hy : ¬ now - r.sent < tmo) (hm : r.many < tries) : tickL now tmo tries rs = (E ++ sentOf now r :: W, some r.c.b) := by
  have h1 := (h.fly r rfl).1
  rw [h.eq, tick_app _ _ _ _ _ h.ends]
  simp only [Option.toList, List.cons_append, List.nil_append]
  rw [tickL, if_pos (by omega), if_pos h1, if_neg hy, if_pos hm]
theorem Parts.tick_lost (h : Parts rs E (some r) W) (now tmo : Int) (tries : Nat) (hy : ¬ now - r.sent < tmo) (hm : ¬ r.many < tries) : tickL now tmo tries rs = ((E ++ [turnedOf 3 r]) ++ (sendL now W).1, (sendL now W).2) := by
  have h1 := (h.fly r rfl).1
  rw [h.eq, tick_app _ _ _ _ _ h.ends]
  simp only [Option.toList, List.cons_append, List.nil_append]
  rw [tickL, if_pos (by omega), if_pos h1, if_neg hy, if_neg hm, List.append_assoc]
  rfl
/-- What is behind a send of the next one. -/
theorem Parts.sent_done {q : DRow} {E W : List DRow} (he : ∀ e ∈ E, 2 ≤ e.st) (hw : Fresh (q :: W)) (now : Int) (h0 : q.c.wait = 0) :
    Parts (E ++ (sentOf now q :: W)) (E ++ [sentOf now q]) none W ∧ doneOf (E ++ [sentOf now q]) = doneOf E + 1 ∧ lostOf (E ++ [sentOf now q]) = lostOf E := by
  have h2 : (sentOf now q).st = 2 := by show (if q.c.wait = 0 then 2 else 1) = 2; rw [if_pos h0]
  refine ⟨⟨by simp, ends_more he (by omega), fun r e => (by cases e), hw.tail⟩, ?_, ?_⟩
  · rw [done_app, doneOf, h2]; rfl
  · rw [lost_app, lostOf, h2]; rfl
theorem Parts.sent_fly {q : DRow} {E W : List DRow} (he : ∀ e ∈ E, 2 ≤ e.st) (hw : Fresh (q :: W)) (now : Int) (h0 : q.c.wait ≠ 0) :
    sentOf now q = ⟨q.c, 1, now, 1⟩ ∧ Parts (E ++ (sentOf now q :: W)) E (some ⟨q.c, 1, now, 1⟩) W := by
  have e : sentOf now q = ⟨q.c, 1, now, 1⟩ := by
    unfold sentOf
    rw [if_neg h0, (hw q (by simp)).2]
  exact ⟨e, ⟨by rw [e]; rfl, he, fun r h => by cases h; exact ⟨rfl, h0⟩, hw.tail⟩⟩
theorem Parts.again_fly (h : Parts rs E (some r) W) (now : Int) : sentOf now r = ⟨r.c, 1, now, r.many + 1⟩ ∧ Parts (E ++ (sentOf now r :: W)) E (some ⟨r.c, 1, now, r.many + 1⟩) W := by
  have hw := (h.fly r rfl).2
  have e : sentOf now r = ⟨r.c, 1, now, r.many + 1⟩ := by unfold sentOf; rw [if_neg hw]
  exact ⟨e, ⟨by rw [e]; rfl, h.ends, fun q e => by cases e; exact ⟨rfl, hw⟩, h.new⟩⟩
/-- What is behind an end of the one in flight. -/
theorem Parts.turned (h : Parts rs E (some r) W) (s : Nat) (hs : 2 ≤ s) : Parts (E ++ (turnedOf s r :: W)) (E ++ [turnedOf s r]) none W :=
  ⟨by simp, ends_more h.ends hs, fun q e => (by cases e), h.new⟩
theorem turned_done (E : List DRow) (r : DRow) : doneOf (E ++ [turnedOf 2 r]) = doneOf E + 1 ∧ lostOf (E ++ [turnedOf 2 r]) = lostOf E := by
  rw [done_app, lost_app]; exact ⟨rfl, rfl⟩
theorem turned_lost (E : List DRow) (r : DRow) : doneOf (E ++ [turnedOf 3 r]) = doneOf E ∧ lostOf (E ++ [turnedOf 3 r]) = lostOf E + 1 := by
  rw [done_app, lost_app]; exact ⟨rfl, rfl⟩
theorem Parts.hear_none (h : Parts rs E none W) (wait : Nat) (good : Bool) (cls id : Nat) : hearL wait good cls id rs = (rs, false) := by
  rw [h.eq, hear_app _ _ _ _ _ _ h.ends]
  simp only [Option.toList, List.nil_append]
  rw [hear_fresh _ _ _ _ _ h.new]
theorem Parts.hear_fly (h : Parts rs E (some r) W) (wait : Nat) (good : Bool) (cls id : Nat) : hearL wait good cls id rs =
    if heardBy wait cls id r.c then (E ++ (turnedOf (if good then 2 else 3) r :: W), true) else (rs, false) := by
  have h1 := (h.fly r rfl).1
  rw [h.eq, hear_app _ _ _ _ _ _ h.ends]
  simp only [Option.toList, List.cons_append, List.nil_append]
  rw [hearL, if_pos (by omega)]
  by_cases q : heardBy wait cls id r.c
  · rw [if_pos ⟨h1, q⟩, if_pos q]
  · rw [if_neg (fun e => q e.2), if_neg q]
end
/- The program's dialogue behind a pointer: what stands where; whether it was made, whether one is in flight, how many are done. -/
/-- A command in flight, in a block of its own. -/
structure FlyIn (K : Nat → Prop) (w : World) (h : Nat) (r : DRow) (v : Value) : Prop where
  cmd : CmdIn w h 0 r.c v
  c4 : w.cell? ⟨h, 4, none⟩ = some (.int .i64 (r.many : Nat))
  c5 : w.cell? ⟨h, 5, none⟩ = some (.int .i64 r.sent)
  f4 : w.frozen? ⟨h, 4, none⟩ = false
  f5 : w.frozen? ⟨h, 5, none⟩ = false
  km : r.many ≤ 50
  ks : -9223372036854775808 ≤ r.sent ∧ r.sent ≤ 9223372036854775807
  may : mayCmd r.c
  ob : ∀ b, v.ownBlock = some b → K b
  nk : ¬ K h
theorem FlyIn.far {K F : Nat → Prop} {w w' : World} {h : Nat} {r : DRow} {v : Value} (H : FlyIn K w h r v) (g : Far F w w') (hb : ¬ F h) (hK : ∀ b, K b → ¬ F b) : FlyIn K w' h r v := by
  have l := H.cmd.lt
  exact ⟨H.cmd.far g hb (fun b e => hK b (H.ob b e)), (g.cell (p := ⟨h, 4, none⟩) l hb).trans H.c4, (g.cell (p := ⟨h, 5, none⟩) l hb).trans H.c5, (g.frozen (p := ⟨h, 4, none⟩) l hb).trans H.f4, (g.frozen (p := ⟨h, 5, none⟩) l hb).trans H.f5, H.km, H.ks, H.may, H.ob, H.nk⟩
def flyV : Option (Nat × DRow) → Value
  | none => .pointer none
  | some x => .pointer (some ⟨x.1, 0, none⟩)
theorem CmdsAt.farP {X F : Nat → Prop} {w w' : World} {v : Value} {cs : List Cmd} (h : CmdsAt X w v cs) (g : Far F w w') (hp : ∀ c ∈ cs, 0 < c.b.length) (hv : ∀ b, v.ownBlock = some b → ¬ F b) (hX : ∀ b, X b → ¬ F b) : CmdsAt X w' v cs := by
  obtain ⟨A, c, rfl, hc, hr⟩ := h
  refine ⟨A, c, rfl, hc, fun hn => ?_⟩
  obtain ⟨b, o, rfl, hf⟩ := hr hn
  refine ⟨b, o, rfl, fun i q hi => ?_⟩
  obtain ⟨fv, h1, h2⟩ := hf i q hi
  exact ⟨fv, h1.far g (hv b rfl) (fun b' e => hX b' (h2 (hp q (List.mem_of_getElem? hi)) b' e)), h2⟩
/-- The program's dialogue in block g: L its list of commands that were not sent, fl the one in flight. -/
structure PrgAt (K : Nat → Prop) (w : World) (g : Nat) (L : Value) (fl : Option (Nat × DRow)) (W : List Cmd) (dn ls : Nat) (now tmo : Int) (tries : Nat) : Prop where
  lt : g < w.heap.size
  c0 : w.cell? ⟨g, 0, none⟩ = some (.int .i64 tmo)
  c1 : w.cell? ⟨g, 1, none⟩ = some (.int .i64 (tries : Nat))
  c2 : w.cell? ⟨g, 2, none⟩ = some L
  c3 : w.cell? ⟨g, 3, none⟩ = some (flyV fl)
  c4 : w.cell? ⟨g, 4, none⟩ = some (.int .i64 (dn : Nat))
  c5 : w.cell? ⟨g, 5, none⟩ = some (.int .i64 (ls : Nat))
  c6 : w.cell? ⟨g, 6, none⟩ = some (.int .i64 now)
  f2 : w.frozen? ⟨g, 2, none⟩ = false
  f3 : w.frozen? ⟨g, 3, none⟩ = false
  f4 : w.frozen? ⟨g, 4, none⟩ = false
  f5 : w.frozen? ⟨g, 5, none⟩ = false
  f6 : w.frozen? ⟨g, 6, none⟩ = false
  list : CmdsAt K w L W
  lb : ∀ b, L.ownBlock = some b → K b
  ll : W.length ≤ 50
  may : ∀ c ∈ W, mayCmd c
  fly : ∀ h r, fl = some (h, r) → h ≠ g ∧ ∃ v, FlyIn K w h r v
  ng : ¬ K g
  kb : ∀ b, K b → b < w.heap.size
  kd : dn ≤ 50 ∧ ls ≤ 50
  kn : -9223372036854775808 ≤ now ∧ now ≤ 9223372036854775807
  kt : 100000000 ≤ tmo ∧ tmo ≤ 10000000000
  kr : 1 ≤ tries ∧ tries ≤ 8
theorem PrgAt.far {K F : Nat → Prop} {w w' : World} {g : Nat} {L : Value} {fl : Option (Nat × DRow)} {W : List Cmd} {dn ls : Nat} {now tmo : Int} {tries : Nat} (h : PrgAt K w g L fl W dn ls now tmo tries) (k : Far F w w') (hg : ¬ F g) (hf : ∀ h r, fl = some (h, r) → ¬ F h) (hK : ∀ b, K b → ¬ F b) : PrgAt K w' g L fl W dn ls now tmo tries := by
  have l := h.lt
  exact ⟨Nat.lt_of_lt_of_le l k.size, (k.cell (p := ⟨g, 0, none⟩) l hg).trans h.c0, (k.cell (p := ⟨g, 1, none⟩) l hg).trans h.c1, (k.cell (p := ⟨g, 2, none⟩) l hg).trans h.c2, (k.cell (p := ⟨g, 3, none⟩) l hg).trans h.c3, (k.cell (p := ⟨g, 4, none⟩) l hg).trans h.c4, (k.cell (p := ⟨g, 5, none⟩) l hg).trans h.c5, (k.cell (p := ⟨g, 6, none⟩) l hg).trans h.c6,
    (k.frozen (p := ⟨g, 2, none⟩) l hg).trans h.f2, (k.frozen (p := ⟨g, 3, none⟩) l hg).trans h.f3, (k.frozen (p := ⟨g, 4, none⟩) l hg).trans h.f4, (k.frozen (p := ⟨g, 5, none⟩) l hg).trans h.f5, (k.frozen (p := ⟨g, 6, none⟩) l hg).trans h.f6,
    h.list.farP k (fun c hc => (h.may c hc).1) (fun b e => hK b (h.lb b e)) hK, h.lb, h.ll, h.may, fun x r e => by obtain ⟨n, v, hv⟩ := h.fly x r e; exact ⟨n, v, hv.far k (hf x r e) hK⟩, h.ng, fun b hb => Nat.lt_of_lt_of_le (h.kb b hb) k.size, h.kd, h.kn, h.kt, h.kr⟩
theorem PrgAt.grew {K : Nat → Prop} {w w' : World} {g : Nat} {L : Value} {fl : Option (Nat × DRow)} {W : List Cmd} {dn ls : Nat} {now tmo : Int} {tries : Nat} (h : PrgAt K w g L fl W dn ls now tmo tries) (k : Grew w w') : PrgAt K w' g L fl W dn ls now tmo tries :=
  h.far (F := fun _ => False) (Far.of_grew k) (fun q => q) (fun _ _ _ q => q) (fun _ _ q => q)
/-- The program's dialogue as the document's: F what it writes, K what it reads alone. -/
def PrgR (K : Nat → Prop) (w : World) (v : Value) (F : Nat → Prop) (d : Dlg) : Prop :=
  ∃ (g : Nat) (L : Value) (fl : Option (Nat × DRow)) (E W : List DRow), v = .pointer (some ⟨g, 0, none⟩) ∧ (∀ b, F b ↔ b = g ∨ ∃ r, fl = some (b, r)) ∧ Parts d.rows E (fl.map Prod.snd) W ∧
    PrgAt K w g L fl (W.map DRow.c) (doneOf E) (lostOf E) (if d.came then d.now else -9223372036854775808) d.tmo d.tries
theorem PrgR.far {K G : Nat → Prop} {w w' : World} {v : Value} {F : Nat → Prop} {d : Dlg} (h : PrgR K w v F d) (k : Far G w w') (hF : ∀ b, F b ∨ K b → ¬ G b) : PrgR K w' v F d := by
  obtain ⟨g, L, fl, E, W, rfl, h1, h2, h3⟩ := h
  exact ⟨g, L, fl, E, W, rfl, h1, h2, h3.far k (hF g (.inl ((h1 g).2 (.inl rfl)))) (fun x r e => hF x (.inl ((h1 x).2 (.inr ⟨r, e⟩)))) (fun b hb => hF b (.inr hb))⟩
theorem PrgR.lt {K : Nat → Prop} {w : World} {v : Value} {F : Nat → Prop} {d : Dlg} (h : PrgR K w v F d) : ∀ b, F b ∨ K b → b < w.heap.size := fun b hb => by
  obtain ⟨g, L, fl, E, W, rfl, h1, h2, h3⟩ := h
  rcases hb with hb | hb
  · rcases (h1 b).1 hb with rfl | ⟨r, e⟩
    · exact h3.lt
    · obtain ⟨_, v, hv⟩ := h3.fly b r e; exact hv.cmd.lt
  · exact h3.kb b hb
theorem PrgR.apart {K : Nat → Prop} {w : World} {v : Value} {F : Nat → Prop} {d : Dlg} (h : PrgR K w v F d) : ∀ b, K b → ¬ F b := fun b hb e => by
  obtain ⟨g, L, fl, E, W, rfl, h1, h2, h3⟩ := h
  rcases (h1 b).1 e with rfl | ⟨r, e⟩
  · exact h3.ng hb
  · obtain ⟨_, v, hv⟩ := h3.fly b r e; exact hv.nk hb
theorem PrgR.ptr {K : Nat → Prop} {w : World} {v : Value} {F : Nat → Prop} {d : Dlg} (h : PrgR K w v F d) : ∃ p, v = .pointer (some p) := by
  obtain ⟨g, L, fl, E, W, rfl, _⟩ := h
  exact ⟨_, rfl⟩
-- [MADE
set_option maxRecDepth 100000 in
set_option maxHeartbeats 2000000 in
theorem prg_isMade (w : World) (g : Nat) (tmo : Int) (lt : g < w.heap.size) (c0 : w.cell? ⟨g, 0, none⟩ = some (.int .i64 tmo)) (ht : 0 < tmo) :
    Calls Try.prog 25 #[.pointer (some ⟨g, 0, none⟩)] w fun e w' => e = .returned (.bool true) ∧ w = w' := by
  go_enter Try.func25, Try.ntmps25
  go_wp2_with fail
  go_ret
  exact ⟨by simp, rfl⟩
set_option maxRecDepth 100000 in
set_option maxHeartbeats 2000000 in
theorem prg_isMade_none (w : World) : Calls Try.prog 25 #[.pointer none] w fun e w' => e = .returned (.bool false) ∧ w = w' := by
  go_enter Try.func25, Try.ntmps25
  go_wp2_with fail
  go_ret
  exact ⟨rfl, rfl⟩
-- MADE]
section
variable {K : Nat → Prop} {w : World} {g : Nat} {L : Value} {fl : Option (Nat × DRow)} {W : List Cmd} {dn ls : Nat} {now tmo : Int} {tries : Nat}
-- [FLYING
set_option maxRecDepth 100000 in
set_option maxHeartbeats 2000000 in
theorem prg_Flying (h : PrgAt K w g L fl W dn ls now tmo tries) :
    Calls Try.prog 18 #[.pointer (some ⟨g, 0, none⟩)] w fun e w' => e = .returned (.bool fl.isSome) ∧ w = w' := by
  have HM := Lib.hid (prg_isMade w g tmo h.lt h.c0 (by have := h.kt; omega))
  have lt := h.lt
  have c3 := h.c3
  cases fl with
  | none =>
    unfold flyV at c3
    clear h
    go_enter Try.func18, Try.ntmps18
    go_wp2_with (go_at_call 25; refine HM.out.mono ?_; rintro e w1 ⟨rfl, hw1⟩; subst hw1)
    go_ret
    exact ⟨rfl, rfl⟩
  | some x =>
    unfold flyV at c3
    clear h
    go_enter Try.func18, Try.ntmps18
    go_wp2_with (go_at_call 25; refine HM.out.mono ?_; rintro e w1 ⟨rfl, hw1⟩; subst hw1)
    go_ret
    exact ⟨rfl, rfl⟩
set_option maxRecDepth 100000 in
set_option maxHeartbeats 2000000 in
theorem prg_Flying_none (w : World) : Calls Try.prog 18 #[.pointer none] w fun e w' => e = .returned (.bool false) ∧ w = w' := by
  have HM := Lib.hid (prg_isMade_none w)
  go_enter Try.func18, Try.ntmps18
  go_wp2_with (go_at_call 25; refine HM.out.mono ?_; rintro e w1 ⟨rfl, hw1⟩; subst hw1)
  go_ret
  exact ⟨rfl, rfl⟩
-- FLYING]
-- [COUNTS
set_option maxRecDepth 100000 in
set_option maxHeartbeats 4000000 in
theorem prg_Counts (h : PrgAt K w g L fl W dn ls now tmo tries) :
    Calls Try.prog 16 #[.pointer (some ⟨g, 0, none⟩)] w fun e w' => e = .returned (.tuple #[.int .i64 (dn : Nat), .int .i64 (ls : Nat), .int .i64 ((W.length + (if fl.isSome then 1 else 0) : Nat) : Int)]) ∧ Grew w w' := by
  have HM := Lib.hid (prg_isMade w g tmo h.lt h.c0 (by have := h.kt; omega))
  have HF := Lib.hid (prg_Flying h)
  have lt := h.lt
  have c2 := h.c2
  have c4 := h.c4
  have c5 := h.c5
  have ll := h.ll
  obtain ⟨A, c, rfl, hc, _⟩ := h.list
  clear h
  have G0 := Grew.refl w
  cases hb : fl.isSome with
  | false =>
    rw [hb] at HF
    go_enter Try.func16, Try.ntmps16
    go_wp2_with (first | (go_at_call 25; refine HM.out.mono ?_; rintro e w1 ⟨rfl, hw1⟩; subst hw1) | (go_at_call 18; refine HF.out.mono ?_; rintro e w1 ⟨rfl, hw1⟩; subst hw1))
    go_quiet (fail)
    go_wp2_with fail
    exact bodyPost_ret (by simp [results, Try.results16, go_sem]; try rfl) rfl ⟨rfl, G0.drewN nq⟩
  | true =>
    rw [hb] at HF
    have e1 : IntKind.i64.wrap ((W.length : Int) + 1) = ((W.length + 1 : Nat) : Int) := by rw [IntWalk.i64_in _ (by omega)]; omega
    go_enter Try.func16, Try.ntmps16
    go_wp2_with (first | (go_at_call 25; refine HM.out.mono ?_; rintro e w1 ⟨rfl, hw1⟩; subst hw1) | (go_at_call 18; refine HF.out.mono ?_; rintro e w1 ⟨rfl, hw1⟩; subst hw1))
    go_quiet (fail)
    go_wp2_with fail
    exact bodyPost_ret (by simp [results, Try.results16, go_sem]; try rfl) rfl ⟨by simp, G0.drewN nq⟩
set_option maxRecDepth 100000 in
set_option maxHeartbeats 4000000 in
theorem prg_Counts_none (w : World) : Calls Try.prog 16 #[.pointer none] w fun e w' => e = .returned (.tuple #[.int .i64 0, .int .i64 0, .int .i64 0]) ∧ Grew w w' := by
  have HM := Lib.hid (prg_isMade_none w)
  go_enter Try.func16, Try.ntmps16
  go_wp2_with (go_at_call 25; refine HM.out.mono ?_; rintro e w1 ⟨rfl, hw1⟩; subst hw1)
  exact bodyPost_ret (by simp [results, Try.results16, go_sem]; try rfl) rfl ⟨rfl, Grew.refl _⟩
-- COUNTS]
theorem wrap_u64P (v : Int) : IntKind.u64.wrap v = v % 18446744073709551616 := by
  unfold IntKind.wrap
  rfl
-- [LATE
set_option maxRecDepth 100000 in
set_option maxHeartbeats 4000000 in
theorem prg_isLate {h : Nat} {r : DRow} (H : PrgAt K w g L (some (h, r)) W dn ls now tmo tries) (hs : r.sent ≤ now) :
    Calls Try.prog 27 #[.pointer (some ⟨g, 0, none⟩)] w fun e w' => e = .returned (.bool (decide (tmo ≤ now - r.sent))) ∧ Grew w w' := by
  obtain ⟨_, v, hv⟩ := H.fly h r rfl
  have lt := H.lt
  have c0 := H.c0
  have c3 := H.c3
  have c6 := H.c6
  have lh := hv.cmd.lt
  have d5 := hv.c5
  have ks := hv.ks
  have kn := H.kn
  have kt := H.kt
  unfold flyV at c3
  simp only at c3
  generalize r.sent = s at *
  clear H hv
  have G0 := Grew.refl w
  go_enter Try.func27, Try.ntmps27
  go_wp2_with fail
  go_quiet (fail)
  go_wp2_with fail
  go_ret
  have e : IntKind.u64.wrap (IntKind.u64.wrap now - IntKind.u64.wrap s) = now - s := by rw [wrap_u64P, wrap_u64P, wrap_u64P]; omega
  exact ⟨by rw [e]; rfl, G0.drewN nq⟩
-- LATE]
end
/- The program's dialogue: what is written where: its seven cells; the one in flight. -/
/-- Seven cells side by side. -/
structure SevenAt (w : World) (g : Nat) (x0 x1 x2 x3 x4 x5 x6 : Value) : Prop where
  lt : g < w.heap.size
  c0 : w.cell? ⟨g, 0, none⟩ = some x0
  c1 : w.cell? ⟨g, 1, none⟩ = some x1
  c2 : w.cell? ⟨g, 2, none⟩ = some x2
  c3 : w.cell? ⟨g, 3, none⟩ = some x3
  c4 : w.cell? ⟨g, 4, none⟩ = some x4
  c5 : w.cell? ⟨g, 5, none⟩ = some x5
  c6 : w.cell? ⟨g, 6, none⟩ = some x6
  f2 : w.frozen? ⟨g, 2, none⟩ = false
  f3 : w.frozen? ⟨g, 3, none⟩ = false
  f4 : w.frozen? ⟨g, 4, none⟩ = false
  f5 : w.frozen? ⟨g, 5, none⟩ = false
  f6 : w.frozen? ⟨g, 6, none⟩ = false
section
variable {w w' : World} {g : Nat} {x0 x1 x2 x3 x4 x5 x6 : Value}
theorem SevenAt.far {F : Nat → Prop} (h : SevenAt w g x0 x1 x2 x3 x4 x5 x6) (k : Far F w w') (hg : ¬ F g) : SevenAt w' g x0 x1 x2 x3 x4 x5 x6 := by
  have l := h.lt
  exact ⟨Nat.lt_of_lt_of_le l k.size, (k.cell (p := ⟨g, 0, none⟩) l hg).trans h.c0, (k.cell (p := ⟨g, 1, none⟩) l hg).trans h.c1, (k.cell (p := ⟨g, 2, none⟩) l hg).trans h.c2, (k.cell (p := ⟨g, 3, none⟩) l hg).trans h.c3, (k.cell (p := ⟨g, 4, none⟩) l hg).trans h.c4, (k.cell (p := ⟨g, 5, none⟩) l hg).trans h.c5, (k.cell (p := ⟨g, 6, none⟩) l hg).trans h.c6,
    (k.frozen (p := ⟨g, 2, none⟩) l hg).trans h.f2, (k.frozen (p := ⟨g, 3, none⟩) l hg).trans h.f3, (k.frozen (p := ⟨g, 4, none⟩) l hg).trans h.f4, (k.frozen (p := ⟨g, 5, none⟩) l hg).trans h.f5, (k.frozen (p := ⟨g, 6, none⟩) l hg).trans h.f6⟩
theorem ne_off {g i j : Nat} (h : i ≠ j) : (⟨g, i, none⟩ : Addr) ≠ ⟨g, j, none⟩ := fun e => h (by injection e)
theorem SevenAt.put2 (h : SevenAt w g x0 x1 x2 x3 x4 x5 x6) (u : Value) : SevenAt (w.setCell ⟨g, 2, none⟩ u) g x0 x1 u x3 x4 x5 x6 := by
  obtain ⟨l, c0, c1, c2, c3, c4, c5, c6, f2, f3, f4, f5, f6⟩ := h
  exact ⟨by simpa [World.setCell] using l, (World.cell?_setCell_other _ _ _ _ (ne_off (by omega))).trans c0, (World.cell?_setCell_other _ _ _ _ (ne_off (by omega))).trans c1, World.cell?_setCell_same _ _ _ c2, (World.cell?_setCell_other _ _ _ _ (ne_off (by omega))).trans c3, (World.cell?_setCell_other _ _ _ _ (ne_off (by omega))).trans c4, (World.cell?_setCell_other _ _ _ _ (ne_off (by omega))).trans c5, (World.cell?_setCell_other _ _ _ _ (ne_off (by omega))).trans c6, by simpa [go_sem] using f2, by simpa [go_sem] using f3, by simpa [go_sem] using f4, by simpa [go_sem] using f5, by simpa [go_sem] using f6⟩
theorem SevenAt.put3 (h : SevenAt w g x0 x1 x2 x3 x4 x5 x6) (u : Value) : SevenAt (w.setCell ⟨g, 3, none⟩ u) g x0 x1 x2 u x4 x5 x6 := by
  obtain ⟨l, c0, c1, c2, c3, c4, c5, c6, f2, f3, f4, f5, f6⟩ := h
  exact ⟨by simpa [World.setCell] using l, (World.cell?_setCell_other _ _ _ _ (ne_off (by omega))).trans c0, (World.cell?_setCell_other _ _ _ _ (ne_off (by omega))).trans c1, (World.cell?_setCell_other _ _ _ _ (ne_off (by omega))).trans c2, World.cell?_setCell_same _ _ _ c3, (World.cell?_setCell_other _ _ _ _ (ne_off (by omega))).trans c4, (World.cell?_setCell_other _ _ _ _ (ne_off (by omega))).trans c5, (World.cell?_setCell_other _ _ _ _ (ne_off (by omega))).trans c6, by simpa [go_sem] using f2, by simpa [go_sem] using f3, by simpa [go_sem] using f4, by simpa [go_sem] using f5, by simpa [go_sem] using f6⟩
theorem SevenAt.put4 (h : SevenAt w g x0 x1 x2 x3 x4 x5 x6) (u : Value) : SevenAt (w.setCell ⟨g, 4, none⟩ u) g x0 x1 x2 x3 u x5 x6 := by
  obtain ⟨l, c0, c1, c2, c3, c4, c5, c6, f2, f3, f4, f5, f6⟩ := h
  exact ⟨by simpa [World.setCell] using l, (World.cell?_setCell_other _ _ _ _ (ne_off (by omega))).trans c0, (World.cell?_setCell_other _ _ _ _ (ne_off (by omega))).trans c1, (World.cell?_setCell_other _ _ _ _ (ne_off (by omega))).trans c2, (World.cell?_setCell_other _ _ _ _ (ne_off (by omega))).trans c3, World.cell?_setCell_same _ _ _ c4, (World.cell?_setCell_other _ _ _ _ (ne_off (by omega))).trans c5, (World.cell?_setCell_other _ _ _ _ (ne_off (by omega))).trans c6, by simpa [go_sem] using f2, by simpa [go_sem] using f3, by simpa [go_sem] using f4, by simpa [go_sem] using f5, by simpa [go_sem] using f6⟩
theorem SevenAt.put5 (h : SevenAt w g x0 x1 x2 x3 x4 x5 x6) (u : Value) : SevenAt (w.setCell ⟨g, 5, none⟩ u) g x0 x1 x2 x3 x4 u x6 := by
  obtain ⟨l, c0, c1, c2, c3, c4, c5, c6, f2, f3, f4, f5, f6⟩ := h
  exact ⟨by simpa [World.setCell] using l, (World.cell?_setCell_other _ _ _ _ (ne_off (by omega))).trans c0, (World.cell?_setCell_other _ _ _ _ (ne_off (by omega))).trans c1, (World.cell?_setCell_other _ _ _ _ (ne_off (by omega))).trans c2, (World.cell?_setCell_other _ _ _ _ (ne_off (by omega))).trans c3, (World.cell?_setCell_other _ _ _ _ (ne_off (by omega))).trans c4, World.cell?_setCell_same _ _ _ c5, (World.cell?_setCell_other _ _ _ _ (ne_off (by omega))).trans c6, by simpa [go_sem] using f2, by simpa [go_sem] using f3, by simpa [go_sem] using f4, by simpa [go_sem] using f5, by simpa [go_sem] using f6⟩
theorem SevenAt.put6 (h : SevenAt w g x0 x1 x2 x3 x4 x5 x6) (u : Value) : SevenAt (w.setCell ⟨g, 6, none⟩ u) g x0 x1 x2 x3 x4 x5 u := by
  obtain ⟨l, c0, c1, c2, c3, c4, c5, c6, f2, f3, f4, f5, f6⟩ := h
  exact ⟨by simpa [World.setCell] using l, (World.cell?_setCell_other _ _ _ _ (ne_off (by omega))).trans c0, (World.cell?_setCell_other _ _ _ _ (ne_off (by omega))).trans c1, (World.cell?_setCell_other _ _ _ _ (ne_off (by omega))).trans c2, (World.cell?_setCell_other _ _ _ _ (ne_off (by omega))).trans c3, (World.cell?_setCell_other _ _ _ _ (ne_off (by omega))).trans c4, (World.cell?_setCell_other _ _ _ _ (ne_off (by omega))).trans c5, World.cell?_setCell_same _ _ _ c6, by simpa [go_sem] using f2, by simpa [go_sem] using f3, by simpa [go_sem] using f4, by simpa [go_sem] using f5, by simpa [go_sem] using f6⟩
theorem seven_new (w : World) (x0 x1 x2 x3 x4 x5 x6 : Value) (E : TypeId) : ∃ W, w.alloc (.cells #[x0, x1, x2, x3, x4, x5, x6] E) = W ∧ Grew w W ∧ SevenAt W w.heap.size x0 x1 x2 x3 x4 x5 x6 :=
  ⟨_, rfl, (Grew.refl _).alloc _, by simp, by simp [go_sem], by simp [go_sem], by simp [go_sem], by simp [go_sem], by simp [go_sem], by simp [go_sem], by simp [go_sem], by simp [go_sem], by simp [go_sem], by simp [go_sem], by simp [go_sem], by simp [go_sem]⟩
end
/-- Six cells side by side: what is in flight. -/
structure SixAt (w : World) (g : Nat) (x0 x1 x2 x3 x4 x5 : Value) : Prop where
  lt : g < w.heap.size
  c0 : w.cell? ⟨g, 0, none⟩ = some x0
  c1 : w.cell? ⟨g, 1, none⟩ = some x1
  c2 : w.cell? ⟨g, 2, none⟩ = some x2
  c3 : w.cell? ⟨g, 3, none⟩ = some x3
  c4 : w.cell? ⟨g, 4, none⟩ = some x4
  c5 : w.cell? ⟨g, 5, none⟩ = some x5
  f4 : w.frozen? ⟨g, 4, none⟩ = false
  f5 : w.frozen? ⟨g, 5, none⟩ = false
theorem six_new (w : World) (x0 x1 x2 x3 x4 x5 : Value) (E : TypeId) : ∃ W, w.alloc (.cells #[x0, x1, x2, x3, x4, x5] E) = W ∧ Grew w W ∧ SixAt W w.heap.size x0 x1 x2 x3 x4 x5 :=
  ⟨_, rfl, (Grew.refl _).alloc _, by simp, by simp [go_sem], by simp [go_sem], by simp [go_sem], by simp [go_sem], by simp [go_sem], by simp [go_sem], by simp [go_sem], by simp [go_sem]⟩
section
variable {w w' : World} {g : Nat} {x0 x1 x2 x3 x4 x5 : Value}
theorem SixAt.far {F : Nat → Prop} (h : SixAt w g x0 x1 x2 x3 x4 x5) (k : Far F w w') (hg : ¬ F g) : SixAt w' g x0 x1 x2 x3 x4 x5 := by
  have l := h.lt
  exact ⟨Nat.lt_of_lt_of_le l k.size, (k.cell (p := ⟨g, 0, none⟩) l hg).trans h.c0, (k.cell (p := ⟨g, 1, none⟩) l hg).trans h.c1, (k.cell (p := ⟨g, 2, none⟩) l hg).trans h.c2, (k.cell (p := ⟨g, 3, none⟩) l hg).trans h.c3, (k.cell (p := ⟨g, 4, none⟩) l hg).trans h.c4, (k.cell (p := ⟨g, 5, none⟩) l hg).trans h.c5, (k.frozen (p := ⟨g, 4, none⟩) l hg).trans h.f4, (k.frozen (p := ⟨g, 5, none⟩) l hg).trans h.f5⟩
theorem SixAt.put4 (h : SixAt w g x0 x1 x2 x3 x4 x5) (u : Value) : SixAt (w.setCell ⟨g, 4, none⟩ u) g x0 x1 x2 x3 u x5 := by
  obtain ⟨l, c0, c1, c2, c3, c4, c5, f4, f5⟩ := h
  exact ⟨by simpa [World.setCell] using l, (World.cell?_setCell_other _ _ _ _ (ne_off (by omega))).trans c0, (World.cell?_setCell_other _ _ _ _ (ne_off (by omega))).trans c1, (World.cell?_setCell_other _ _ _ _ (ne_off (by omega))).trans c2, (World.cell?_setCell_other _ _ _ _ (ne_off (by omega))).trans c3, World.cell?_setCell_same _ _ _ c4, (World.cell?_setCell_other _ _ _ _ (ne_off (by omega))).trans c5, by simpa [go_sem] using f4, by simpa [go_sem] using f5⟩
theorem SixAt.put5 (h : SixAt w g x0 x1 x2 x3 x4 x5) (u : Value) : SixAt (w.setCell ⟨g, 5, none⟩ u) g x0 x1 x2 x3 x4 u := by
  obtain ⟨l, c0, c1, c2, c3, c4, c5, f4, f5⟩ := h
  exact ⟨by simpa [World.setCell] using l, (World.cell?_setCell_other _ _ _ _ (ne_off (by omega))).trans c0, (World.cell?_setCell_other _ _ _ _ (ne_off (by omega))).trans c1, (World.cell?_setCell_other _ _ _ _ (ne_off (by omega))).trans c2, (World.cell?_setCell_other _ _ _ _ (ne_off (by omega))).trans c3, (World.cell?_setCell_other _ _ _ _ (ne_off (by omega))).trans c4, World.cell?_setCell_same _ _ _ c5, by simpa [go_sem] using f4, by simpa [go_sem] using f5⟩
end
theorem FlyIn.six {K : Nat → Prop} {w : World} {h : Nat} {r : DRow} {v : Value} (H : FlyIn K w h r v) : SixAt w h v (.int .u8 (r.c.wait : Nat)) (.int .u8 (r.c.cls : Nat)) (.int .u8 (r.c.id : Nat)) (.int .i64 (r.many : Nat)) (.int .i64 r.sent) :=
  ⟨H.cmd.lt, H.cmd.c0, H.cmd.c1, H.cmd.c2, H.cmd.c3, H.c4, H.c5, H.f4, H.f5⟩
/-- Six cells of which the bytes lie in K: one in flight. -/
theorem FlyIn.of_six {K : Nat → Prop} {w : World} {h : Nat} {r : DRow} {v : Value} (s : SixAt w h v (.int .u8 (r.c.wait : Nat)) (.int .u8 (r.c.cls : Nat)) (.int .u8 (r.c.id : Nat)) (.int .i64 (r.many : Nat)) (.int .i64 r.sent))
    (hr : Row .u8 w v r.c.b) (kc : r.c.wait < 256 ∧ r.c.cls < 256 ∧ r.c.id < 256) (km : r.many ≤ 50) (ks : -9223372036854775808 ≤ r.sent ∧ r.sent ≤ 9223372036854775807) (may : mayCmd r.c) (ob : ∀ b, v.ownBlock = some b → K b) (nk : ¬ K h) : FlyIn K w h r v :=
  ⟨⟨s.lt, s.c0, s.c1, s.c2, s.c3, hr, kc.1, kc.2.1, kc.2.2⟩, s.c4, s.c5, s.f4, s.f5, km, ks, may, ob, nk⟩
section
variable {K : Nat → Prop} {w w' : World} {g : Nat} {L L' : Value} {fl fl' : Option (Nat × DRow)} {W W' : List Cmd} {dn ls dn' ls' : Nat} {now now' tmo : Int} {tries : Nat}
theorem PrgAt.seven (h : PrgAt K w g L fl W dn ls now tmo tries) : SevenAt w g (.int .i64 tmo) (.int .i64 (tries : Nat)) L (flyV fl) (.int .i64 (dn : Nat)) (.int .i64 (ls : Nat)) (.int .i64 now) :=
  ⟨h.lt, h.c0, h.c1, h.c2, h.c3, h.c4, h.c5, h.c6, h.f2, h.f3, h.f4, h.f5, h.f6⟩
/-- The same one, of which something was written. -/
theorem PrgAt.remake (h : PrgAt K w g L fl W dn ls now tmo tries) (hz : w.heap.size ≤ w'.heap.size) (s : SevenAt w' g (.int .i64 tmo) (.int .i64 (tries : Nat)) L' (flyV fl') (.int .i64 (dn' : Nat)) (.int .i64 (ls' : Nat)) (.int .i64 now'))
    (hl : CmdsAt K w' L' W') (lb : ∀ b, L'.ownBlock = some b → K b) (ll : W'.length ≤ 50) (may : ∀ c ∈ W', mayCmd c) (hf : ∀ x r, fl' = some (x, r) → x ≠ g ∧ ∃ v, FlyIn K w' x r v) (kd : dn' ≤ 50 ∧ ls' ≤ 50) (kn : -9223372036854775808 ≤ now' ∧ now' ≤ 9223372036854775807) : PrgAt K w' g L' fl' W' dn' ls' now' tmo tries :=
  ⟨s.lt, s.c0, s.c1, s.c2, s.c3, s.c4, s.c5, s.c6, s.f2, s.f3, s.f4, s.f5, s.f6, hl, lb, ll, may, hf, h.ng, fun b hb => Nat.lt_of_lt_of_le (h.kb b hb) hz, kd, kn, h.kt, h.kr⟩
/-- Its counter, or what is in flight, is another one; the list stays. -/
theorem PrgAt.turn (h : PrgAt K w g L fl W dn ls now tmo tries) {F : Nat → Prop} (k : Far F w w') (hF : ∀ b, F b → ¬ K b) (s : SevenAt w' g (.int .i64 tmo) (.int .i64 (tries : Nat)) L (flyV fl') (.int .i64 (dn' : Nat)) (.int .i64 (ls' : Nat)) (.int .i64 now'))
    (hf : ∀ x r, fl' = some (x, r) → x ≠ g ∧ ∃ v, FlyIn K w' x r v) (kd : dn' ≤ 50 ∧ ls' ≤ 50) (kn : -9223372036854775808 ≤ now' ∧ now' ≤ 9223372036854775807) : PrgAt K w' g L fl' W dn' ls' now' tmo tries :=
  h.remake k.size s (h.list.farP k (fun c hc => (h.may c hc).1) (fun b e q => hF b q (h.lb b e)) (fun b hb q => hF b q hb)) h.lb h.ll h.may hf kd kn
/-- Of the one in flight alone something was written. -/
theorem PrgAt.flew {x : Nat} {r r' : DRow} (h : PrgAt K w g L (some (x, r)) W dn ls now tmo tries) (k : Far (fun b => b = x) w w') (hf : ∃ v, FlyIn K w' x r' v) : PrgAt K w' g L (some (x, r')) W dn ls now tmo tries := by
  obtain ⟨hn, v, hv⟩ := h.fly x r rfl
  exact h.turn k (fun b hb e => hv.nk (by rw [← show b = x from hb]; exact e)) (h.seven.far k (fun e => hn e.symm)) (fun y q e => by cases e; exact ⟨hn, hf⟩) h.kd h.kn
end
end Go.Proofs.Ytcdmbnbanopioaa
