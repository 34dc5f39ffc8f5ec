/-
  The program's sentences: what a reader's calls tell, by the fields' numbers.
-/
import Derived.Test.YtajgicliepenkaaDoorNmpG
namespace Go.Proofs.YtajgicliepenkaaDoor
open Go.RowKit
set_option linter.unusedVariables false

section
variable {w w' : World} {S n c E X : Nat} {bs : List ByteArray} {s : Rs}
theorem Rd.ex (h : Rd w S n c bs E X s) (j : Nat) (hj : j < n) : ∃ x, bs[j]? = some x := ⟨_, List.getElem?_eq_getElem (by rw [h.len]; exact hj)⟩
theorem q_clock (h : Rd w S n c bs E X s) (j : Nat) (hj : j < n) (r : (Nat × Nat × Nat × Bool) × Nat) (hr : clockOf (fb bs j) = r) : Calls Tryd.prog 38 #[rv S n c E, .int .i64 (j : Nat)] w
      (Rdt w S n c bs E X (s.1, s.2 || badE r.2) (.tuple #[.agg #[.int .i64 (r.1.1 : Nat), .int .i64 (r.1.2.1 : Nat), .int .i64 (r.1.2.2.1 : Nat), .bool r.1.2.2.2], .bool (r.2 == 0)])) := by
  obtain ⟨x, hx⟩ := h.ex j hj
  rw [fb_at hx] at hr
  subst hr
  exact r_clock h j x hx
theorem q_date (h : Rd w S n c bs E X s) (j : Nat) (hj : j < n) (r : (Nat × Nat × Nat) × Nat) (hr : dateOf (fb bs j) = r) : Calls Tryd.prog 42 #[rv S n c E, .int .i64 (j : Nat)] w
      (Rdt w S n c bs E X (s.1, s.2 || badE r.2) (.tuple #[.int .i64 (r.1.1 : Nat), .int .i64 (r.1.2.1 : Nat), .int .i64 (r.1.2.2 : Nat), .bool (r.2 == 0)])) := by
  obtain ⟨x, hx⟩ := h.ex j hj
  rw [fb_at hx] at hr
  subst hr
  exact r_date h j x hx
theorem q_active (h : Rd w S n c bs E X s) (j : Nat) (hj : j < n) (r : Nat × Nat) (hr : oneOf (fb bs j) [65, 86] = r) : Calls Tryd.prog 39 #[rv S n c E, .int .i64 (j : Nat)] w
      (Rdt w S n c bs E X (s.1, s.2 || badE r.2) (.bool (r.2 == 0 && r.1 == 0))) := by
  obtain ⟨x, hx⟩ := h.ex j hj
  rw [fb_at hx] at hr
  subst hr
  exact r_active h j x hx
theorem q_number (h : Rd w S n c bs E X s) (j : Nat) (hj : j < n) (l m : Int) (h1 : -9223372036854775808 ≤ l ∧ l ≤ 9223372036854775807) (h2 : -9223372036854775808 ≤ m ∧ m ≤ 9223372036854775807) (r : Int × Nat) (hr : intAns (fb bs j) l m = r) :
    Calls Tryd.prog 43 #[rv S n c E, .int .i64 (j : Nat), .int .i64 l, .int .i64 m] w
      (Rdt w S n c bs E X (s.1, s.2 || badE r.2) (.tuple #[.int .i64 r.1, .bool (r.2 == 0)])) := by
  obtain ⟨x, hx⟩ := h.ex j hj
  rw [fb_at hx] at hr
  subst hr
  exact r_number h j x hx l m h1 h2
theorem q_letter (h : Rd w S n c bs E X s) (j : Nat) (hj : j < n) (o : ByteArray) (ho : o.size ≤ 1000) (r : Nat × Nat) (hr : oneOf (fb bs j) (nat o) = r) :
    Calls Tryd.prog 45 #[rv S n c E, .int .i64 (j : Nat), .string o] w
      (Rdt w S n c bs E X (s.1, s.2 || badE r.2) (.tuple #[.int .i64 (r.1 : Nat), .bool (r.2 == 0)])) := by
  obtain ⟨x, hx⟩ := h.ex j hj
  rw [fb_at hx] at hr
  subst hr
  exact r_letter h j x hx o ho
theorem q_fixed (h : Rd w S n c bs E X s) (j : Nat) (hj : j < n) (p : Int) (hp : -9223372036854775808 ≤ p ∧ p ≤ 9223372036854775807) (r : Int × Nat) (hr : fixedOf (fb bs j) p = r) :
    Calls Tryd.prog 44 #[rv S n c E, .int .i64 (j : Nat), .int .i64 p] w
      (Rdt w S n c bs E X (s.1, s.2 || badE r.2) (.int .i64 r.1)) := by
  obtain ⟨x, hx⟩ := h.ex j hj
  rw [fb_at hx] at hr
  subst hr
  exact r_fixed h j x hx p hp
theorem q_unsigned (h : Rd w S n c bs E X s) (j : Nat) (hj : j < n) (p : Int) (hp : -9223372036854775808 ≤ p ∧ p ≤ 9223372036854775807) (u : Int) (hu : uOf (fb bs) j p = u) (b : Bool) (hb : unsBad (fb bs j) p = b) :
    Calls Tryd.prog 41 #[rv S n c E, .int .i64 (j : Nat), .int .i64 p] w
      (Rdt w S n c bs E X (s.1, s.2 || b) (.int .i64 u)) := by
  obtain ⟨x, hx⟩ := h.ex j hj
  unfold uOf at hu
  rw [fb_at hx] at hu hb
  subst hu hb
  exact r_unsigned h j x hx p hp
theorem q_position (h : Rd w S n c bs E X s) (j : Nat) (hj : j + 3 < n) :
    Calls Tryd.prog 40 #[rv S n c E, .int .i64 (j : Nat), .pointer (some ⟨X, 0, none⟩)] w (Rdx w S n c bs E X (sPos (fb bs) j s)) := by
  obtain ⟨x0, h0⟩ := h.ex j (by omega)
  obtain ⟨x1, h1⟩ := h.ex (j + 1) (by omega)
  obtain ⟨x2, h2⟩ := h.ex (j + 2) (by omega)
  obtain ⟨x3, h3⟩ := h.ex (j + 3) (by omega)
  exact r_position h j x0 x1 x2 x3 h0 h1 h2 h3

theorem Rd.as {t u : Rs} (e : t = u) (h : Rd w S n c bs E X t) : Rd w S n c bs E X u := e ▸ h
theorem sTime_of {f : Nat → List Nat} {j : Nat} {r : (Nat × Nat × Nat × Bool) × Nat} (hr : clockOf (f j) = r) (s : Rs) : sTime f j s = ({ s.1 with time := r.1, hasTime := r.2 == 0 }, s.2 || badE r.2) := by
  subst hr; rfl
theorem sDate_of {f : Nat → List Nat} {j : Nat} {r : (Nat × Nat × Nat) × Nat} (hr : dateOf (f j) = r) (s : Rs) : sDate f j s = ({ s.1 with day := (r.1.1 : Nat), month := (r.1.2.1 : Nat), year := (r.1.2.2 : Nat), hasDate := r.2 == 0 }, s.2 || badE r.2) := by
  subst hr; rfl
theorem sActive_of {f : Nat → List Nat} {j : Nat} {r : Nat × Nat} (hr : oneOf (f j) [65, 86] = r) (s : Rs) : sActive f j s = ({ s.1 with valid := r.2 == 0 && r.1 == 0 }, s.2 || badE r.2) := by
  subst hr; rfl
theorem Rd.time {f : Nat → List Nat} {j : Nat} {r : (Nat × Nat × Nat × Bool) × Nat} (h : Rd w S n c bs E X (s.1, s.2 || badE r.2)) (hr : clockOf (f j) = r) :
    Rd (((((w.setCell ⟨X, 5, none⟩ (.int .i64 (r.1.1 : Nat))).setCell ⟨X, 6, none⟩ (.int .i64 (r.1.2.1 : Nat))).setCell ⟨X, 7, none⟩ (.int .i64 (r.1.2.2.1 : Nat))).setCell ⟨X, 8, none⟩ (.bool r.1.2.2.2)).setCell ⟨X, 2, none⟩ (.bool (r.2 == 0))) S n c bs E X (sTime f j s) := by
  rw [sTime_of hr]
  exact (h.p_time r.1.1 r.1.2.1 r.1.2.2.1 r.1.2.2.2).p_hasTime (r.2 == 0)
theorem farX_time {W : World} (h : FarX E X W w) (a b d g t : Value) : FarX E X W (((((w.setCell ⟨X, 5, none⟩ a).setCell ⟨X, 6, none⟩ b).setCell ⟨X, 7, none⟩ d).setCell ⟨X, 8, none⟩ g).setCell ⟨X, 2, none⟩ t) :=
  farX_put (farX_put (farX_put (farX_put (farX_put h 5 a) 6 b) 7 d) 8 g) 2 t
theorem box_keptX {B S n c E X : Nat} {W : World} (hB : B < W.heap.size) (hE : B ≠ E) (hX : B ≠ X) (d0 : W.cell? ⟨B, 0, none⟩ = some (.slice (some ⟨S, 0, none⟩) n c)) (d1 : W.cell? ⟨B, 1, none⟩ = some (.func (.func 9) #[] #[.pointer (some ⟨E, 0, none⟩)])) :
    ∀ w', FarX E X W w' → w'.cell? ⟨B, 0, none⟩ = some (.slice (some ⟨S, 0, none⟩) n c) ∧ w'.cell? ⟨B, 1, none⟩ = some (.func (.func 9) #[] #[.pointer (some ⟨E, 0, none⟩)]) :=
  fun w' g => ⟨(g.cell (p := ⟨B, 0, none⟩) hB (fun e => e.elim hE hX)).trans d0, (g.cell (p := ⟨B, 1, none⟩) hB (fun e => e.elim hE hX)).trans d1⟩
theorem int_in2 (S : List Nat) (l m : Int) (h : 0 ≤ l) (hm : 0 ≤ m) : 0 ≤ (intAns S l m).1 ∧ (intAns S l m).1 ≤ m := by
  unfold intAns
  repeat' split
  all_goals simp only
  all_goals omega
theorem sats_in (f : Nat → List Nat) (s : Rs) (h : s.1.sats = 0) : ∀ k : Nat, 0 ≤ (satsTo f k s).1.sats ∧ (satsTo f k s).1.sats ≤ k := by
  intro k
  induction k with
  | zero => rw [satsTo, h]; simp
  | succ k ih =>
    rw [satsTo]
    simp only
    split <;> omega
theorem zda_len (s : Rs) (n : Nat) : (s.1, s.2 || !((n : Int) == 4)) = (s.1, s.2 || (n != 4)) := by
  have : ((n : Int) == 4) = (n == 4) := by rw [Bool.eq_iff_iff, beq_iff_eq, beq_iff_eq]; omega
  rw [this]; rfl
theorem Rd.drew (h : Rd w S n c bs E X s) : FarE E w w.drew := Far.of_grew (Grew.refl w).drew
/-- A reader's box and one of its fields stay. -/
theorem box_field {B S n c E X j : Nat} {W w : World} {x : ByteArray} {bs : List ByteArray} {s : Rs} (hB : B < W.heap.size) (hE : B ≠ E) (h : Rd w S n c bs E X s) (g0 : FarX E X W w) (d0 : w.cell? ⟨B, 0, none⟩ = some (.slice (some ⟨S, 0, none⟩) n c)) (d1 : w.cell? ⟨B, 1, none⟩ = some (.func (.func 9) #[] #[.pointer (some ⟨E, 0, none⟩)])) (c0 : w.cell? ⟨S, j, none⟩ = some (.string x)) :
    ∀ w', FarE E w w' → w'.cell? ⟨B, 0, none⟩ = some (.slice (some ⟨S, 0, none⟩) n c) ∧ w'.cell? ⟨B, 1, none⟩ = some (.func (.func 9) #[] #[.pointer (some ⟨E, 0, none⟩)]) ∧ w'.cell? ⟨S, j, none⟩ = some (.string x) :=
  fun w' g => ⟨(g.cell (p := ⟨B, 0, none⟩) (Nat.lt_of_lt_of_le hB g0.size) hE).trans d0, (g.cell (p := ⟨B, 1, none⟩) (Nat.lt_of_lt_of_le hB g0.size) hE).trans d1, (g.cell (p := ⟨S, j, none⟩) h.hS h.SE).trans c0⟩
end
end Go.Proofs.YtajgicliepenkaaDoor
