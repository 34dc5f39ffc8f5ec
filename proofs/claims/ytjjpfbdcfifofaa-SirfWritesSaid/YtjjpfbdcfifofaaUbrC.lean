/-
  The document's UBX messages: a payload read.
-/
import Derived.Test.YtjjpfbdcfifofaaUbrB
import Derived.Deep.RegionLaw
import Derived.Deep.RegionHeldLaw
import Derived.Deep.CutBlock
import Derived.Deep.DeepCutAuto
namespace Go.Proofs.Ytjjpfbdcfifofaa
open Go.RowKit
set_option linter.unusedVariables false

theorem infoI64 : (Try.prog.info? 2).map (fun i => (i.zero, i.size, i.bytes)) = some (some (.int .i64 0), 1, 8) := by kernel_rfl
/-- Fields stand in pairs, in the payload. -/
theorem lay_even (c : Nat) : (ubxLay c).2.length % 2 = 0 ∧ (ubxLay c).2.length ≤ 24 ∧ (ubxLay c).1 ≤ 92 := by
  unfold ubxLay
  (repeat' split) <;> decide
theorem lay_field (c k : Nat) (h : 2 * k + 1 < (ubxLay c).2.length) : ∃ (p m : Nat) (neg : Bool), zi (ubxLay c).2 (2 * k) = (p : Nat) ∧ zi (ubxLay c).2 (2 * k + 1) = (if neg then -(m : Int) else (m : Int)) ∧ (0 < m ∧ m ≤ 4) ∧ p + m ≤ (ubxLay c).1 := by
  have main : ∀ (z n : Int) (L : Nat), (0 ≤ z ∧ (n ≠ 0 ∧ -4 ≤ n ∧ n ≤ 4) ∧ z + n.natAbs ≤ L) → ∃ (p m : Nat) (neg : Bool), z = (p : Nat) ∧ n = (if neg then -(m : Int) else (m : Int)) ∧ (0 < m ∧ m ≤ 4) ∧ p + m ≤ L := fun z n L ⟨h1, h2, h3⟩ => by
    by_cases hn : n < 0
    · exact ⟨z.toNat, n.natAbs, true, by omega, by simp only [if_true]; omega, by omega, by omega⟩
    · exact ⟨z.toNat, n.natAbs, false, by omega, by simp only [Bool.false_eq_true, if_false]; omega, by omega, by omega⟩
  apply main
  revert k h
  have all : ∀ (n : Nat) (l : List Int), l.length ≤ 24 → (List.range 12).all (fun k => decide (l.length ≤ 2 * k + 1) || (decide (0 ≤ zi l (2 * k)) && decide (zi l (2 * k + 1) ≠ 0) && decide (-4 ≤ zi l (2 * k + 1)) && decide (zi l (2 * k + 1) ≤ 4) && decide (zi l (2 * k) + (zi l (2 * k + 1)).natAbs ≤ n))) = true →
      ∀ k, 2 * k + 1 < l.length → 0 ≤ zi l (2 * k) ∧ (zi l (2 * k + 1) ≠ 0 ∧ -4 ≤ zi l (2 * k + 1) ∧ zi l (2 * k + 1) ≤ 4) ∧ zi l (2 * k) + (zi l (2 * k + 1)).natAbs ≤ n := fun n l hl h k hk => by
    have := List.all_eq_true.1 h k (List.mem_range.2 (by omega))
    simp only [Bool.or_eq_true, Bool.and_eq_true, decide_eq_true_eq] at this
    rcases this with q | ⟨⟨⟨⟨a, b⟩, c⟩, d⟩, e⟩
    · omega
    · exact ⟨a, ⟨b, c, d⟩, e⟩
  refine all _ _ (lay_even c).2.1 ?_
  unfold ubxLay
  (repeat' split) <;> decide +kernel

theorem far_drew {F : Nat → Prop} {a w : World} (h : Far F a w) : Far F a w.drew := h.trans (Far.of_grew (Grew.refl w).drew)
theorem far_alloc {F : Nat → Prop} {a w : World} (o : Obj) (h : Far F a w) : Far F a (w.alloc o) := h.trans (Far.of_grew ((Grew.refl w).alloc o))
theorem far_set {F : Nat → Prop} {a w : World} {p : Addr} (u : Value) (hp : F p.block) (h : Far F a w) : Far F a (w.setCell p u) := h.setCell hp u
/-- A call of a Go function as one step of a region that draws, by its contract. -/
theorem step_calls {P : Program} {ops : Array Oper} {o : Oper} {a : Act} {w : World} {K : Act → World → Prop} {Q : Exit → Act → World → Prop} {X : Prop} {f : FuncId} {args : Array Value} (hgd : o.guard = none)
    (h : (execOp a.eval o).run P w = .ok (.enter f args) w) (hc : Calls P f args w fun e w' => ∃ v, e = .returned v ∧ K (a.put o.dst v) w') : if Region.wanted o (yielded ops a.tmps) = true then Oper.wp P o a w K Q else X := by
  rw [if_pos (by simp [Region.wanted, hgd])]
  unfold Oper.wp
  rw [h, Oper.upon_enter]
  refine hc.mono ?_
  rintro e w' ⟨v, rfl, hk⟩
  exact hk
/-- Three cells of a block that may be written. -/
structure ThreeAt (w : World) (b : Nat) (x y z : Value) : Prop where
  lt : b < w.heap.size
  c0 : w.cell? ⟨b, 0, none⟩ = some x
  c1 : w.cell? ⟨b, 1, none⟩ = some y
  c2 : w.cell? ⟨b, 2, none⟩ = some z
  f0 : w.frozen? ⟨b, 0, none⟩ = false
  f1 : w.frozen? ⟨b, 1, none⟩ = false
  f2 : w.frozen? ⟨b, 2, none⟩ = false
theorem ThreeAt.far {F : Nat → Prop} {w w' : World} {b : Nat} {x y z : Value} (h : ThreeAt w b x y z) (g : Far F w w') (hF : ¬ F b) : ThreeAt w' b x y z :=
  ⟨Nat.lt_of_lt_of_le h.lt g.size, (g.cell (p := ⟨b, 0, none⟩) h.lt hF).trans h.c0, (g.cell (p := ⟨b, 1, none⟩) h.lt hF).trans h.c1, (g.cell (p := ⟨b, 2, none⟩) h.lt hF).trans h.c2, (g.frozen (p := ⟨b, 0, none⟩) h.lt hF).trans h.f0, (g.frozen (p := ⟨b, 1, none⟩) h.lt hF).trans h.f1, (g.frozen (p := ⟨b, 2, none⟩) h.lt hF).trans h.f2⟩
theorem ThreeAt.grew {w w' : World} {b : Nat} {x y z : Value} (h : ThreeAt w b x y z) (g : Grew w w') : ThreeAt w' b x y z := h.far (F := fun _ => False) (Far.of_grew g) (fun q => q)
theorem three_new (w : World) (x y z : Value) (E : TypeId) : ∃ W, w.alloc (.cells #[x, y, z] E) = W ∧ Grew w W ∧ ThreeAt W w.heap.size x y z :=
  ⟨_, rfl, (Grew.refl _).alloc _, by simp, by simp [go_sem], by simp [go_sem], by simp [go_sem], by simp [go_sem], by simp [go_sem], by simp [go_sem]⟩
theorem ThreeAt.put2 {w : World} {b : Nat} {x y z : Value} (h : ThreeAt w b x y z) (u : Value) : ThreeAt (w.setCell ⟨b, 2, none⟩ u) b x y u := by
  obtain ⟨h1, h2, h3, h4, h5, h6, h7⟩ := h
  exact ⟨by simpa using h1, by simp [go_sem, h2], by simp [go_sem, h3], by simp [go_sem, h4], by simp [go_sem, h5], by simp [go_sem, h6], by simp [go_sem, h7]⟩
theorem far_of_own {B : Nat} {w w' : World} {E : TypeId} {k : IntKind} {v : Value} {zs : List Int} (ho : OwnZ B E k w v zs) (hg : w.grownBy w' v.ownBlock) : Far (fun x => B ≤ x) w w' := by
  obtain ⟨h1, h2, h3, h4, h5⟩ := hg
  exact ⟨h1, h2, h3, h4, fun k hk hne => h5 k hk (fun e => hne (ho.lt k e.symm).1)⟩
theorem three_put {w W : World} {b : Nat} (g : Grew w W) (hb : w.heap.size ≤ b) (x y z : Value) : Grew w (((W.setCell ⟨b, 0, none⟩ x).setCell ⟨b, 1, none⟩ y).setCell ⟨b, 2, none⟩ z) := ((g.setCell hb _).setCell hb _).setCell hb _
/-- What reading a payload tells. -/
def DecT (a b : Nat) (r : List Int × Nat) (w : World) (e : Ending) (w' : World) : Prop :=
  ∃ v, e = .returned (.tuple #[.agg #[.int .u8 ((if r.2 = 0 then a else 0 : Nat) : Int), .int .u8 ((if r.2 = 0 then b else 0 : Nat) : Int), v], .int .i64 (r.2 : Nat)]) ∧ RowZ .i64 w' v r.1 ∧ (0 < r.1.length → ∀ x, v.ownBlock = some x → w.heap.size ≤ x) ∧ Grew w w'
theorem decT_no {a b er : Nat} {w w' : World} (h : er ≠ 0) (g : Grew w w') : DecT a b ([], er) w (.returned (.tuple #[.agg #[.int .u8 0, .int .u8 0, .slice none 0 0], .int .i64 (er : Nat)])) w' :=
  ⟨_, by rw [if_neg h, if_neg h]; rfl, RowZ.nil _ _, (fun q => absurd q (by simp)), g⟩
end Go.Proofs.Ytjjpfbdcfifofaa
