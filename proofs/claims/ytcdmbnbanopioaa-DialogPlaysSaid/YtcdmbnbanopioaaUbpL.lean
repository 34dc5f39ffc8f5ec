/-
  The program's table of UBX kinds: a kind looked up.
-/
import Derived.Test.YtcdmbnbanopioaaUbpK
import Derived.Test.YtcdmbnbanopioaaUbrA
namespace Go.Proofs.Ytcdmbnbanopioaa
open Go.RowKit
set_option linter.unusedVariables false

theorem fieldCells_length : ∀ l : List Int, (fieldCells l).length = 3 * (l.length / 2)
  | [] => by simp [fieldCells]
  | [_] => by simp [fieldCells]
  | p :: s :: r => by rw [fieldCells, List.length_cons, List.length_cons, List.length_cons, fieldCells_length r, List.length_cons, List.length_cons]; omega
theorem zi_cons2 (p s : Int) (r : List Int) (i : Nat) : zi (p :: s :: r) (i + 2) = zi r i := rfl
theorem fieldCells_at : ∀ (l : List Int) (k : Nat), 2 * k + 1 < l.length → (fieldCells l)[k * 3]? = some (.int .i64 (zi l (2 * k))) ∧ (fieldCells l)[k * 3 + 1]? = some (.int .i64 ((zi l (2 * k + 1)).natAbs : Nat)) ∧ (fieldCells l)[k * 3 + 2]? = some (.bool (decide (zi l (2 * k + 1) < 0)))
  | [], k, h => by simp at h
  | [_], k, h => by simp at h
  | p :: s :: r, 0, _ => by simp [fieldCells, zi]
  | p :: s :: r, k + 1, h => by
    have ih := fieldCells_at r k (by simp at h; omega)
    rw [show 2 * (k + 1) = 2 * k + 2 from rfl, show 2 * k + 2 + 1 = (2 * k + 1) + 2 by omega, zi_cons2, zi_cons2, fieldCells, show (k + 1) * 3 = (k * 3) + 1 + 1 + 1 by omega]
    simpa using ih
/-- A kind's layout as it stands. -/
def LayAt (w : World) (v : Value) (c : Nat) : Prop :=
  ∃ (A : Option Addr) (cap : Nat), v = .agg #[.int .i64 ((ubxLay c).1 : Nat), .slice A ((ubxLay c).2.length / 2) cap] ∧
    (∀ k, 2 * k + 1 < (ubxLay c).2.length → ∃ b, A = some ⟨b, 0, none⟩ ∧ b < w.heap.size ∧ w.cell? ⟨b, k * 3, none⟩ = some (.int .i64 (zi (ubxLay c).2 (2 * k))) ∧ w.cell? ⟨b, k * 3 + 1, none⟩ = some (.int .i64 ((zi (ubxLay c).2 (2 * k + 1)).natAbs : Nat)) ∧ w.cell? ⟨b, k * 3 + 2, none⟩ = some (.bool (decide (zi (ubxLay c).2 (2 * k + 1) < 0))))
theorem kRows_is : ∀ k ∈ kRows, k.a < 256 ∧ k.b < 256 ∧ k.len = (ubxLay (k.a * 256 + k.b)).1 ∧ k.cs = fieldCells (ubxLay (k.a * 256 + k.b)).2 ∧ (ubxLay (k.a * 256 + k.b)).1 ≠ 0 := by
  unfold kRows
  intro k hk
  simp only [List.mem_cons, List.not_mem_nil, or_false] at hk
  rcases hk with rfl | rfl | rfl | rfl | rfl | rfl | rfl | rfl | rfl | rfl <;> exact ⟨by decide, by decide, by kernel_rfl, by kernel_rfl, by decide⟩
theorem kRows_has (a b : Nat) (ha : a < 256) (hb : b < 256) (h : (ubxLay (a * 256 + b)).1 ≠ 0) : ∃ k ∈ kRows, k.a = a ∧ k.b = b := by
  by_cases q : isUbx (a * 256 + b)
  · have hany : ∀ (x y : Nat), x = a → y = b → (kRows.any fun k => k.a == x && k.b == y) = true → ∃ k ∈ kRows, k.a = a ∧ k.b = b := fun x y hx hy h => by
      obtain ⟨k, hk, he⟩ := List.any_eq_true.1 h
      simp only [Bool.and_eq_true, beq_iff_eq] at he
      exact ⟨k, hk, he.1.trans hx, he.2.trans hy⟩
    unfold isUbx at q
    rcases q with q | q | q | q | q | q | q | q | q | q
    · exact hany 1 7 (by omega) (by omega) (by kernel_rfl)
    · exact hany 1 32 (by omega) (by omega) (by kernel_rfl)
    · exact hany 1 33 (by omega) (by omega) (by kernel_rfl)
    · exact hany 1 38 (by omega) (by omega) (by kernel_rfl)
    · exact hany 13 1 (by omega) (by omega) (by kernel_rfl)
    · exact hany 5 0 (by omega) (by omega) (by kernel_rfl)
    · exact hany 5 1 (by omega) (by omega) (by kernel_rfl)
    · exact hany 6 1 (by omega) (by omega) (by kernel_rfl)
    · exact hany 6 8 (by omega) (by omega) (by kernel_rfl)
    · exact hany 6 49 (by omega) (by omega) (by kernel_rfl)
  · rw [ubx_no q] at h
    exact absurd rfl h
theorem keyV_inj {a b c d : Nat} (h : keyV a b = keyV c d) : a = c ∧ b = d := by
  simp [keyV] at h
  omega
/-- A kind's layout as it stands, by its block. -/
def LayH (w : World) (v : Value) (c : Nat) : Prop :=
  ∃ (A : Option Addr) (cap : Nat), v = .agg #[.int .i64 ((ubxLay c).1 : Nat), .slice A ((ubxLay c).2.length / 2) cap] ∧
    (1 < (ubxLay c).2.length → ∃ b, A = some ⟨b, 0, none⟩ ∧ w.heap[b]? = some (.cells (fieldCells (ubxLay c).2).toArray 97))
theorem LayH.at_ {w : World} {v : Value} {c : Nat} (h : LayH w v c) : LayAt w v c := by
  obtain ⟨A, cap, rfl, hb⟩ := h
  refine ⟨A, cap, rfl, fun j hj => ?_⟩
  obtain ⟨fb, rfl, hblk⟩ := hb (by omega)
  refine ⟨fb, rfl, (Array.getElem?_eq_some_iff.1 hblk).1, ?_⟩
  have hc := fieldCells_at _ j hj
  rw [cell_of_row w fb _ _ _ _ hblk, cell_of_row w fb _ _ _ _ hblk, cell_of_row w fb _ _ _ _ hblk]
  simpa using hc
theorem kinds_hitH (w : World) (v : Value) (h : KindsAt w v) (a b : Nat) (ha : a < 256) (hb : b < 256) (hn : (ubxLay (a * 256 + b)).1 ≠ 0) :
    ∃ lv, (Instr.lookup 92 v (keyV a b) true).run Try.prog w = .ok (.tuple #[lv, .bool true]) w ∧ LayH w lv (a * 256 + b) := by
  obtain ⟨m, es, clk, rfl, hm, h1, h2⟩ := h
  obtain ⟨k, hk, rfl, rfl⟩ := kRows_has a b ha hb hn
  obtain ⟨e0, he0, hk0⟩ := h2 k hk
  obtain ⟨e, he, hkey, hrun⟩ := run_hit w m k.a k.b es clk hm (fun e he => by obtain ⟨k', _, hx, _⟩ := h1 e he; exact ⟨k'.a, k'.b, hx⟩) ⟨e0, he0, hk0.1⟩
  refine ⟨e.val, hrun, ?_⟩
  obtain ⟨k', hk', hx, fb, n, hval, hlen, hblk⟩ := h1 e he
  obtain ⟨q1, q2⟩ := keyV_inj (hx.symm.trans hkey)
  obtain ⟨_, _, i1, i2, _⟩ := kRows_is k' hk'
  rw [q1, q2] at i1 i2
  rw [i2, fieldCells_length, Nat.mul_div_cancel_left _ (by decide)] at hlen
  subst hlen
  rw [i2] at hblk
  exact ⟨some ⟨fb, 0, none⟩, _, by rw [hval, i1], fun _ => ⟨fb, rfl, hblk⟩⟩
theorem kinds_hit (w : World) (v : Value) (h : KindsAt w v) (a b : Nat) (ha : a < 256) (hb : b < 256) (hn : (ubxLay (a * 256 + b)).1 ≠ 0) :
    ∃ lv, (Instr.lookup 92 v (keyV a b) true).run Try.prog w = .ok (.tuple #[lv, .bool true]) w ∧ LayAt w lv (a * 256 + b) := by
  obtain ⟨lv, h1, h2⟩ := kinds_hitH w v h a b ha hb hn
  exact ⟨lv, h1, h2.at_⟩
theorem kinds_miss (w : World) (v : Value) (h : KindsAt w v) (a b : Nat) (hn : (ubxLay (a * 256 + b)).1 = 0) :
    (Instr.lookup 92 v (keyV a b) true).run Try.prog w = .ok (.tuple #[.agg #[.int .i64 0, .slice none 0 0], .bool false]) w := by
  obtain ⟨m, es, clk, rfl, hm, h1, h2⟩ := h
  refine run_miss w m a b es clk hm fun e he => ?_
  obtain ⟨k', hk', hx, _⟩ := h1 e he
  refine ⟨k'.a, k'.b, hx, ?_⟩
  have := (kRows_is k' hk').2.2.2.2
  by_cases q : (a == k'.a && b == k'.b) = true
  · simp only [Bool.and_eq_true, beq_iff_eq] at q
    rw [← q.1, ← q.2] at this
    exact absurd hn this
  · simpa using q
theorem LayAt.far {F : Nat → Prop} {w w' : World} {v : Value} {c : Nat} (h : LayAt w v c) (g : Far F w w') (hF : ∀ b, b < w.heap.size → ¬ F b) : LayAt w' v c := by
  obtain ⟨A, cap, rfl, hc⟩ := h
  refine ⟨A, cap, rfl, fun k hk => ?_⟩
  obtain ⟨b, rfl, hb, c0, c1, c2⟩ := hc k hk
  exact ⟨b, rfl, Nat.lt_of_lt_of_le hb g.size, (g.cell (p := ⟨b, k * 3, none⟩) hb (hF b hb)).trans c0, (g.cell (p := ⟨b, k * 3 + 1, none⟩) hb (hF b hb)).trans c1, (g.cell (p := ⟨b, k * 3 + 2, none⟩) hb (hF b hb)).trans c2⟩
theorem LayAt.grew {w w' : World} {v : Value} {c : Nat} (h : LayAt w v c) (g : Grew w w') : LayAt w' v c := h.far (F := fun _ => False) (Far.of_grew g) (fun _ _ q => q)
theorem lay_no {c : Nat} (h : (ubxLay c).1 = 0) : ubxLay c = (0, []) := by
  by_cases q : isUbx c
  · unfold isUbx at q
    rcases q with rfl | rfl | rfl | rfl | rfl | rfl | rfl | rfl | rfl | rfl <;> exact absurd h (by decide)
  · exact ubx_no q
/-- A key looked up, whether it is there or not. -/
theorem kinds_look (w : World) (v : Value) (h : KindsAt w v) (a b : Nat) (ha : a < 256) (hb : b < 256) :
    ∃ lv, (Instr.lookup 92 v (keyV a b) true).run Try.prog w = .ok (.tuple #[lv, .bool (decide ((ubxLay (a * 256 + b)).1 ≠ 0))]) w ∧ LayH w lv (a * 256 + b) := by
  by_cases hn : (ubxLay (a * 256 + b)).1 = 0
  · refine ⟨_, by rw [kinds_miss w v h a b hn, hn]; rfl, none, 0, by rw [lay_no hn]; rfl, fun q => ?_⟩
    rw [lay_no hn] at q
    exact absurd q (by decide)
  · obtain ⟨lv, h1, h2⟩ := kinds_hitH w v h a b ha hb hn
    exact ⟨lv, by rw [h1, decide_eq_true hn], h2⟩
theorem KindsAt.grew {w w' : World} {v : Value} (h : KindsAt w v) (g : Grew w w') : KindsAt w' v := by
  obtain ⟨m, es, clk, rfl, hm, h1, h2⟩ := h
  refine ⟨m, es, clk, rfl, (Below.block g m (Array.getElem?_eq_some_iff.1 hm).1).trans hm, fun e he => ?_, fun k hk => ?_⟩
  · obtain ⟨k, hk, hx⟩ := h1 e he
    exact ⟨k, hk, hx.kept (.of_grew g)⟩
  · obtain ⟨e, he, hx⟩ := h2 k hk
    exact ⟨e, he, hx.kept (.of_grew g)⟩
theorem LayH.kept {w w' : World} {v : Value} {c : Nat} (h : LayH w v c) (g : ∀ (b : Nat) (cs : Array Value), w.heap[b]? = some (.cells cs 97) → w'.heap[b]? = some (.cells cs 97)) : LayH w' v c := by
  obtain ⟨A, cap, rfl, hb⟩ := h
  refine ⟨A, cap, rfl, fun hl => ?_⟩
  obtain ⟨b, e, hx⟩ := hb hl
  exact ⟨b, e, g _ _ hx⟩
end Go.Proofs.Ytcdmbnbanopioaa
