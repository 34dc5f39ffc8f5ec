/-
  The document's SiRF messages: a payload written.
-/
import Derived.Test.YtcdmbnbanopioaaSrrC
import Derived.OwnWalk
namespace Go.Proofs.Ytcdmbnbanopioaa
open Go.RowKit
set_option linter.unusedVariables false

theorem wpList_makeS {P : Program} (w : World) {ops : Array Oper} {rest : List Oper} {o : Oper} {a : Act} {Q : Exit → Act → World → Prop} (hgd : o.guard = none) (l c : Operand) (t : TypeId) (hop : o.op = .makeSlice t l c)
    (base : Nat) (E : TypeId) (k : IntKind) (bytes : Nat) (ht : P.underlying t = some (.slice E)) (hi : (P.info? E).map (fun i => (i.zero, i.size, i.bytes)) = some (some (.int k 0), 1, bytes))
    (n : Nat) (hl : a.eval l = .int .i64 (n : Nat)) (hc : a.eval c = .int .i64 (n : Nat)) (hb : bytes * n ≤ 281474976710656) (hm : n ≤ maxLen) (hbase : base ≤ w.heap.size)
    (h : ∀ w', Own base E k w' (.slice (some ⟨w.heap.size, 0, none⟩) n n) (List.replicate n 0) → Grew w w' → wpList P ops Q rest (a.put o.dst (.slice (some ⟨w.heap.size, 0, none⟩) n n)) w') : wpList P ops Q (o :: rest) a w := by
  obtain ⟨i, hi0, hz0, hz1, hz2⟩ := info_parts hi
  refine wpList_make_full w hgd l c t hop base E i (.int k 0) 1 ht hi0 hz0 hz1 .i64 .i64 _ _ n hl hc rfl rfl (by rw [hz2]; exact hb) hm hbase fun w' h1 h2 => h w' ?_ ?_
  · have e : (madeCells (Value.int k 0).cells (n * 1)).toList = List.replicate n (.int k 0) := by
      rw [show (Value.int k 0).cells = #[.int k 0] from rfl, Nat.mul_one]
      unfold madeCells
      refine List.ext_getElem (by simp) fun i h1 h2 => ?_
      simp [Nat.mod_one]
    rw [e] at h1
    unfold Own
    rw [List.length_replicate, show cellsOf k (List.replicate n 0) = List.replicate n (.int k 0) by simp [cellsOf]]
    exact h1
  · exact Below.grown (Grew.refl w) h2 (Nat.le_refl _) (fun b hb => by cases hb)
theorem Own.cellS {w : World} {B : Nat} {E : TypeId} {k : IntKind} {g c n : Nat} {ns : List Nat} (h : Own B E k w (.slice (some ⟨g, 0, none⟩) n c) ns) (hn : n = ns.length) (j : Nat) (hj : j < ns.length) : w.cell? ⟨g, j, none⟩ = some (.int k (wd ns j : Nat)) ∧ w.frozen? ⟨g, j, none⟩ = false := by
  subst hn
  unfold Own at h
  refine ⟨?_, World.ownsRow.frozenAt h j⟩
  rw [World.ownsRow.cellAt h j (by omega)]
  simp [cellsOf, wd, hj]
theorem fits_noS {l zs : List Int} {k K : Nat} (h : fitsTo l zs (k + 1) = false) (hk : k < K) : fitsTo l zs K = false := by
  cases q : fitsTo l zs K with
  | false => rfl
  | true => rw [fitsTo_all q (k + 1) (by omega)] at h; cases h
theorem tmod_is (Y : Int) : (0 ≤ Y.tmod 256 ∧ Y.tmod 256 = Y % 256) ∨ (Y.tmod 256 < 0 ∧ Y.tmod 256 + 256 = Y % 256) := by
  rw [Int.tmod_eq_emod]
  split <;> simp <;> omega
theorem tdiv_is (Y : Int) : (Y - Y % 256).tdiv 256 = Y / 256 := by
  have : Y - Y % 256 = 256 * (Y / 256) := by omega
  rw [this, Int.mul_tdiv_cancel_left _ (by decide)]
theorem ediv_step (z : Int) (j : Nat) : z / ((256 ^ j : Nat) : Int) / 256 = z / ((256 ^ (j + 1) : Nat) : Int) := by
  rw [Int.ediv_ediv_of_nonneg (Int.natCast_nonneg _), Nat.pow_succ, Int.natCast_mul]
  rfl
theorem ediv_in (z : Int) (j : Nat) (h : -4294967296 ≤ z ∧ z ≤ 4294967296) : -4294967296 ≤ z / ((256 ^ j : Nat) : Int) ∧ z / ((256 ^ j : Nat) : Int) ≤ 4294967296 := by
  have hp : 0 < 256 ^ j := Nat.pow_pos (by decide)
  generalize 256 ^ j = q at *
  have h1 := Int.mul_ediv_add_emod z (q : Int)
  have h2 := Int.emod_nonneg z (show (q : Int) ≠ 0 by omega)
  have h3 := Int.emod_lt_of_pos z (show (0 : Int) < (q : Int) by omega)
  constructor
  · refine Int.not_lt.1 fun hlt => ?_
    have : (q : Int) * (z / (q : Int)) ≤ (q : Int) * (-4294967297) := Int.mul_le_mul_of_nonneg_left (by omega) (by omega)
    have h5 : (q : Int) * (-4294967297) ≤ -4294967296 - q := by
      have : (q : Int) * 4294967297 ≥ 4294967296 + q := by omega
      omega
    omega
  · refine Int.not_lt.1 fun hlt => ?_
    have : (q : Int) * 4294967297 ≤ (q : Int) * (z / (q : Int)) := Int.mul_le_mul_of_nonneg_left (by omega) (by omega)
    omega
theorem fits_in {z : Int} {m : Nat} {Z : Int} (hZ : Z = (m : Int) ∨ Z = -(m : Int)) (hm : 0 < m ∧ m ≤ 4) (h : fitsZ z Z = true) : -4294967296 ≤ z ∧ z ≤ 4294967296 := by
  have hp := pow_le4 m hm.2
  have e : Z.natAbs = m := by omega
  unfold fitsZ at h
  rw [e] at h
  generalize 256 ^ m = q at *
  split at h <;> simp only [decide_eq_true_eq] at h <;> omega
-- [PAY
end Go.Proofs.Ytcdmbnbanopioaa
