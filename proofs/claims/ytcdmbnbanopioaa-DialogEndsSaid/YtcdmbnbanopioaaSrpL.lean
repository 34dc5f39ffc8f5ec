/-
  The program's table of SiRF kinds: a kind looked up.
-/
import Derived.Test.YtcdmbnbanopioaaSrpK
import Derived.Test.YtcdmbnbanopioaaSrrA
namespace Go.Proofs.Ytcdmbnbanopioaa
open Go.RowKit
set_option linter.unusedVariables false

theorem sfCells_length : ∀ l : List Int, (sfCells l).length = 3 * (l.length / 2)
  | [] => by simp [sfCells]
  | [_] => by simp [sfCells]
  | p :: s :: r => by rw [sfCells, List.length_cons, List.length_cons, List.length_cons, sfCells_length r, List.length_cons, List.length_cons]; omega
theorem szi_cons2 (p s : Int) (r : List Int) (i : Nat) : zi (p :: s :: r) (i + 2) = zi r i := rfl
theorem sfCells_at : ∀ (l : List Int) (k : Nat), 2 * k + 1 < l.length → (sfCells l)[k * 3]? = some (.int .i64 (zi l (2 * k))) ∧ (sfCells l)[k * 3 + 1]? = some (.int .i64 ((zi l (2 * k + 1)).natAbs : Nat)) ∧ (sfCells l)[k * 3 + 2]? = some (.bool (decide (zi l (2 * k + 1) < 0)))
  | [], k, h => by simp at h
  | [_], k, h => by simp at h
  | p :: s :: r, 0, _ => by simp [sfCells, zi]
  | p :: s :: r, k + 1, h => by
    have ih := sfCells_at r k (by simp at h; omega)
    rw [show 2 * (k + 1) = 2 * k + 2 from rfl, show 2 * k + 2 + 1 = (2 * k + 1) + 2 by omega, szi_cons2, szi_cons2, sfCells, show (k + 1) * 3 = (k * 3) + 1 + 1 + 1 by omega]
    simpa using ih
/-- A kind's layout as it stands. -/
def SLayAt (w : World) (v : Value) (c : Nat) : Prop :=
  ∃ (A : Option Addr) (cap : Nat), v = .agg #[.int .i64 ((srfLay c).1 : Nat), .slice A ((srfLay c).2.length / 2) cap] ∧
    (∀ k, 2 * k + 1 < (srfLay c).2.length → ∃ b, A = some ⟨b, 0, none⟩ ∧ b < w.heap.size ∧ w.cell? ⟨b, k * 3, none⟩ = some (.int .i64 (zi (srfLay c).2 (2 * k))) ∧ w.cell? ⟨b, k * 3 + 1, none⟩ = some (.int .i64 ((zi (srfLay c).2 (2 * k + 1)).natAbs : Nat)) ∧ w.cell? ⟨b, k * 3 + 2, none⟩ = some (.bool (decide (zi (srfLay c).2 (2 * k + 1) < 0))))
theorem sRows_is : ∀ k ∈ sRows, k.a < 256 ∧ k.len = (srfLay k.a).1 ∧ k.cs = sfCells (srfLay k.a).2 ∧ (srfLay k.a).1 ≠ 0 := by
  unfold sRows
  intro k hk
  simp only [List.mem_cons, List.not_mem_nil, or_false] at hk
  rcases hk with rfl | rfl | rfl | rfl | rfl | rfl | rfl | rfl <;> exact ⟨by decide, by kernel_rfl, by kernel_rfl, by decide⟩
theorem sRows_has (a : Nat) (h : (srfLay a).1 ≠ 0) : ∃ k ∈ sRows, k.a = a := by
  by_cases q : isSrf a
  · have hany : ∀ (x : Nat), x = a → (sRows.any fun k => k.a == x) = true → ∃ k ∈ sRows, k.a = a := fun x hx h => by
      obtain ⟨k, hk, he⟩ := List.any_eq_true.1 h
      simp only [beq_iff_eq] at he
      exact ⟨k, hk, he.trans hx⟩
    unfold isSrf at q
    rcases q with q | q | q | q | q | q | q | q
    · exact hany 2 q.symm (by kernel_rfl)
    · exact hany 4 q.symm (by kernel_rfl)
    · exact hany 7 q.symm (by kernel_rfl)
    · exact hany 41 q.symm (by kernel_rfl)
    · exact hany 52 q.symm (by kernel_rfl)
    · exact hany 11 q.symm (by kernel_rfl)
    · exact hany 12 q.symm (by kernel_rfl)
    · exact hany 166 q.symm (by kernel_rfl)
  · rw [srf_no q] at h
    exact absurd rfl h
theorem skey_inj {a b : Nat} (h : Value.int .u8 (a : Nat) = .int .u8 (b : Nat)) : a = b := by
  simp at h
  omega
/-- A kind's layout as it stands, by its block. -/
def SLayH (w : World) (v : Value) (c : Nat) : Prop :=
  ∃ (A : Option Addr) (cap : Nat), v = .agg #[.int .i64 ((srfLay c).1 : Nat), .slice A ((srfLay c).2.length / 2) cap] ∧
    (1 < (srfLay c).2.length → ∃ b, A = some ⟨b, 0, none⟩ ∧ w.heap[b]? = some (.cells (sfCells (srfLay c).2).toArray 106))
theorem SLayH.at_ {w : World} {v : Value} {c : Nat} (h : SLayH w v c) : SLayAt w v c := by
  obtain ⟨A, cap, rfl, hb⟩ := h
  refine ⟨A, cap, rfl, fun j hj => ?_⟩
  obtain ⟨fb, rfl, hblk⟩ := hb (by omega)
  refine ⟨fb, rfl, (Array.getElem?_eq_some_iff.1 hblk).1, ?_⟩
  have hc := sfCells_at _ j hj
  rw [cell_of_row w fb _ _ _ _ hblk, cell_of_row w fb _ _ _ _ hblk, cell_of_row w fb _ _ _ _ hblk]
  simpa using hc
theorem skinds_hitH (w : World) (v : Value) (h : SKindsAt w v) (a : Nat) (ha : a < 256) (hn : (srfLay a).1 ≠ 0) :
    ∃ lv, (Instr.lookup 103 v ((.int .u8 (a : Nat))) true).run Try.prog w = .ok (.tuple #[lv, .bool true]) w ∧ SLayH w lv a := by
  obtain ⟨m, es, clk, rfl, hm, h1, h2⟩ := h
  obtain ⟨k, hk, rfl⟩ := sRows_has a hn
  obtain ⟨e0, he0, hk0⟩ := h2 k hk
  obtain ⟨e, he, hkey, hrun⟩ := srun_hit w m k.a es clk hm (fun e he => by obtain ⟨k', _, hx, _⟩ := h1 e he; exact ⟨k'.a, hx⟩) ⟨e0, he0, hk0.1⟩
  refine ⟨e.val, hrun, ?_⟩
  obtain ⟨k', hk', hx, fb, n, hval, hlen, hblk⟩ := h1 e he
  have q1 := skey_inj (hx.symm.trans hkey)
  obtain ⟨_, i1, i2, _⟩ := sRows_is k' hk'
  rw [q1] at i1 i2
  rw [i2, sfCells_length, Nat.mul_div_cancel_left _ (by decide)] at hlen
  subst hlen
  rw [i2] at hblk
  exact ⟨some ⟨fb, 0, none⟩, _, by rw [hval, i1], fun _ => ⟨fb, rfl, hblk⟩⟩
theorem skinds_hit (w : World) (v : Value) (h : SKindsAt w v) (a : Nat) (ha : a < 256) (hn : (srfLay a).1 ≠ 0) :
    ∃ lv, (Instr.lookup 103 v ((.int .u8 (a : Nat))) true).run Try.prog w = .ok (.tuple #[lv, .bool true]) w ∧ SLayAt w lv a := by
  obtain ⟨lv, h1, h2⟩ := skinds_hitH w v h a ha hn
  exact ⟨lv, h1, h2.at_⟩
theorem skinds_miss (w : World) (v : Value) (h : SKindsAt w v) (a : Nat) (hn : (srfLay a).1 = 0) :
    (Instr.lookup 103 v ((.int .u8 (a : Nat))) true).run Try.prog w = .ok (.tuple #[.agg #[.int .i64 0, .slice none 0 0], .bool false]) w := by
  obtain ⟨m, es, clk, rfl, hm, h1, h2⟩ := h
  refine srun_miss w m a es clk hm fun e he => ?_
  obtain ⟨k', hk', hx, _⟩ := h1 e he
  refine ⟨k'.a, hx, fun q => ?_⟩
  have := (sRows_is k' hk').2.2.2
  rw [← q] at this
  exact absurd hn this
theorem SLayAt.far {F : Nat → Prop} {w w' : World} {v : Value} {c : Nat} (h : SLayAt w v c) (g : Far F w w') (hF : ∀ b, b < w.heap.size → ¬ F b) : SLayAt w' v c := by
  obtain ⟨A, cap, rfl, hc⟩ := h
  refine ⟨A, cap, rfl, fun k hk => ?_⟩
  obtain ⟨b, rfl, hb, c0, c1, c2⟩ := hc k hk
  exact ⟨b, rfl, Nat.lt_of_lt_of_le hb g.size, (g.cell (p := ⟨b, k * 3, none⟩) hb (hF b hb)).trans c0, (g.cell (p := ⟨b, k * 3 + 1, none⟩) hb (hF b hb)).trans c1, (g.cell (p := ⟨b, k * 3 + 2, none⟩) hb (hF b hb)).trans c2⟩
theorem SLayAt.grew {w w' : World} {v : Value} {c : Nat} (h : SLayAt w v c) (g : Grew w w') : SLayAt w' v c := h.far (F := fun _ => False) (Far.of_grew g) (fun _ _ q => q)
theorem slay_no {c : Nat} (h : (srfLay c).1 = 0) : srfLay c = (0, []) := by
  by_cases q : isSrf c
  · unfold isSrf at q
    rcases q with rfl | rfl | rfl | rfl | rfl | rfl | rfl | rfl <;> exact absurd h (by decide)
  · exact srf_no q
/-- A key looked up, whether it is there or not. -/
theorem skinds_look (w : World) (v : Value) (h : SKindsAt w v) (a : Nat) (ha : a < 256) :
    ∃ lv, (Instr.lookup 103 v ((.int .u8 (a : Nat))) true).run Try.prog w = .ok (.tuple #[lv, .bool (decide ((srfLay a).1 ≠ 0))]) w ∧ SLayH w lv a := by
  by_cases hn : (srfLay a).1 = 0
  · refine ⟨_, by rw [skinds_miss w v h a hn, hn]; rfl, none, 0, by rw [slay_no hn]; rfl, fun q => ?_⟩
    rw [slay_no hn] at q
    exact absurd q (by decide)
  · obtain ⟨lv, h1, h2⟩ := skinds_hitH w v h a ha hn
    exact ⟨lv, by rw [h1, decide_eq_true hn], h2⟩
theorem SKindsAt.grew {w w' : World} {v : Value} (h : SKindsAt w v) (g : Grew w w') : SKindsAt w' v := by
  obtain ⟨m, es, clk, rfl, hm, h1, h2⟩ := h
  refine ⟨m, es, clk, rfl, (Below.block g m (Array.getElem?_eq_some_iff.1 hm).1).trans hm, fun e he => ?_, fun k hk => ?_⟩
  · obtain ⟨k, hk, hx⟩ := h1 e he
    exact ⟨k, hk, hx.kept (.of_grew g)⟩
  · obtain ⟨e, he, hx⟩ := h2 k hk
    exact ⟨e, he, hx.kept (.of_grew g)⟩
theorem SLayH.kept {w w' : World} {v : Value} {c : Nat} (h : SLayH w v c) (g : ∀ (b : Nat) (cs : Array Value), w.heap[b]? = some (.cells cs 106) → w'.heap[b]? = some (.cells cs 106)) : SLayH w' v c := by
  obtain ⟨A, cap, rfl, hb⟩ := h
  refine ⟨A, cap, rfl, fun hl => ?_⟩
  obtain ⟨b, e, hx⟩ := hb hl
  exact ⟨b, e, g _ _ hx⟩
end Go.Proofs.Ytcdmbnbanopioaa
