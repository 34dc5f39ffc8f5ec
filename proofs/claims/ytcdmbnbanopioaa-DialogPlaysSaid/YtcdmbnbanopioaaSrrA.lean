/-
  The document's SiRF messages: kinds; a field's bytes the other way round; the same messages.
-/
import Derived.Test.YtcdmbnbanopioaaSrfM
import Derived.Test.YtcdmbnbanopioaaUbrD
namespace Go.Proofs.Ytcdmbnbanopioaa
open Go.RowKit
set_option linter.unusedVariables false

/-- The codes of the kinds. -/
def isSrf (c : Nat) : Prop := c = 2 ∨ c = 4 ∨ c = 7 ∨ c = 41 ∨ c = 52 ∨ c = 11 ∨ c = 12 ∨ c = 166
theorem srf_no {c : Nat} (h : ¬ isSrf c) : srfLay c = (0, []) := by
  unfold isSrf at h
  unfold srfLay
  rw [if_neg (by omega), if_neg (by omega), if_neg (by omega), if_neg (by omega), if_neg (by omega), if_neg (by omega), if_neg (by omega), if_neg (by omega)]
set_option maxHeartbeats 2000000 in
theorem ref13_Layout (c : Nat) (w : World) (hc : c < 256) :
    Calls Try.prog 49 #[.int .u8 (c : Nat)] w fun e w' => ∃ v, e = .returned (.tuple #[.int .i64 ((srfLay c).1 : Nat), v]) ∧ RowZ .i64 w' v (srfLay c).2 ∧ Grew w w' := by
  by_cases h : isSrf c
  · rcases h with rfl | rfl | rfl | rfl | rfl | rfl | rfl | rfl
    all_goals
      go_enter Try.func49, Try.ntmps49
      go_wp2_with fail
      go_ret2
      exact ⟨_, rfl, row_litZ' _ _ _ _ _ _ _ rfl rfl, (Grew.refl w).alloc _⟩
  · rw [srf_no h]
    unfold isSrf at h
    have k1 : ¬ (c : Int) = 2 := by omega
    have k2 : ¬ (c : Int) = 4 := by omega
    have k3 : ¬ (c : Int) = 7 := by omega
    have k4 : ¬ (c : Int) = 41 := by omega
    have k5 : ¬ (c : Int) = 52 := by omega
    have k6 : ¬ (c : Int) = 11 := by omega
    have k7 : ¬ (c : Int) = 12 := by omega
    have k8 : ¬ (c : Int) = 166 := by omega
    clear h
    go_enter Try.func49, Try.ntmps49
    go_wp2_with fail
    go_ret2
    exact ⟨_, rfl, RowZ.nil _ _, Grew.refl w⟩
set_option maxRecDepth 100000 in
set_option maxHeartbeats 2000000 in
theorem ref13_turned (v : Value) (S : List Nat) (p m : Nat) (neg : Bool) (w : World) (hr : Row .u8 w v S) (hB : Bytes S) (hp : p + m ≤ S.length) (hm : 0 < m ∧ m ≤ 4) (hl : S.length ≤ 100000) :
    Calls Try.prog 50 #[v, .int .i64 (p : Nat), .int .i64 (if neg then -(m : Int) else (m : Int))] w fun e w' => ∃ v', e = .returned v' ∧ Own w.heap.size 5 .u8 w' v' (turnTo S p m m) ∧ Grew w w' := by
  obtain ⟨A, c, rfl, hc, hrow⟩ := hr
  have HR := Lib.hid hrow
  have HB := Lib.hid hB
  clear hrow hB
  have c1 : ¬ (m : Int) < 0 := by omega
  have c2 : -(m : Int) < 0 := by omega
  have c3 : IntKind.i64.wrap (- -(m : Int)) = (m : Int) := by rw [Int.neg_neg]; exact IntWalk.i64_in _ (by omega)
  have c4 : - -(m : Int) = (m : Int) := Int.neg_neg _
  have c5 : IntKind.i64.wrap ((m : Int) - 1) = (m : Int) - 1 := IntWalk.i64_in _ (by omega)
  have c6 : IntKind.i64.wrap (m : Int) = (m : Int) := IntWalk.i64_in _ (by omega)
  cases neg
  all_goals
    simp only [Bool.false_eq_true, if_false, if_true]
    go_enter Try.func50, Try.ntmps50
    go_wp2_with fail
    go_loopg [7, 8] m (fun kx s t wr => ∃ k : Nat, k + kx = m ∧ Hid (Own w.heap.size 5 .u8 wr s (turnTo S p m k)) ∧ t = .int .i64 ((m : Int) - 1 - (k : Int)) ∧ Hid (Grew w wr))
    case atStart => exact ⟨0, by omega, Lib.hid (Own.nil _ _ _ _), by simp, Lib.hid (Grew.refl _)⟩
    case round =>
      obtain ⟨k, hk, hO, rfl, hg⟩ := hrel
      by_cases hlt : k < m
      · obtain ⟨b, o, rfl, hb, hcell⟩ := HR.out (by omega)
        have hx := (hg.out.cell (p := ⟨b, o + (p + (m - 1 - k)), none⟩) hb).trans (hcell (p + (m - 1 - k)) (by omega))
        have hst := Lib.hid (show turnTo S p m (k + 1) = turnTo S p m k ++ [wd S (p + (m - 1 - k))] from rfl)
        have htl := Lib.hid (turnTo_length S p m k)
        have n2 := HB.out (p + (m - 1 - k))
        generalize wd S (p + (m - 1 - k)) = x at *
        generalize turnTo S p m k = T at *
        have d0 : (0 : Int) ≤ (m : Int) - 1 - (k : Int) := by omega
        have d1 : IntKind.i64.wrap ((p : Int) + ((m : Int) - 1 - (k : Int))) = ((p + (m - 1 - k) : Nat) : Int) := by rw [IntWalk.i64_in _ (by omega)]; omega
        have d2 : (p : Int) + ((m : Int) - 1 - (k : Int)) = ((p + (m - 1 - k) : Nat) : Int) := by omega
        have d3 : ((p + (m - 1 - k) : Nat) : Int) < S.length := by omega
        have d4 : IntKind.i64.wrap ((m : Int) - 1 - (k : Int) - 1) = (m : Int) - 1 - ((k + 1 : Nat) : Int) := by rw [IntWalk.i64_in _ (by omega)]; omega
        have d5 : (m : Int) - 1 - (k : Int) - 1 = (m : Int) - 1 - ((k + 1 : Nat) : Int) := by omega
        have hgs := hg.out.size
        generalize (m : Int) - 1 - (k : Int) = J at *
        generalize p + (m - 1 - k) = q at *
        clear hcell
        go_wp2_with (refine wpList_push _ rfl _ _ 26 rfl w.heap.size 5 .u8 1 Try.underlying26 infoU8 _ T rfl (hO.out.alloc _) ⟨wr.heap.size, 0, none⟩ x rfl (by simp) (by rw [htl.out]; omega) (by decide) (by simp; omega) ?_; intro v1 w1 ho1 hg1)
        have hgr := Grew.push (hg.out.alloc (.cells #[.int .u8 (x : Nat)] 5)) (hO.out.alloc _) hg1
        clear hg1
        go_roundg (m - (k + 1))
        case measure => omega
        case rel => exact ⟨k + 1, by omega, Lib.hid (by rw [hst.out]; exact ho1), by rw [Int.natCast_add]; rfl, Lib.hid hgr⟩
      · obtain rfl : k = m := by omega
        have d0 : ¬ (0 : Int) ≤ (k : Int) - 1 - (k : Int) := by omega
        go_wp2_with fail
        go_ret
        exact ⟨_, rfl, hO.out, hg.out⟩
/-- Two cells of a block that may be written. -/
structure TwoC (w : World) (b : Nat) (x y : Value) : Prop where
  lt : b < w.heap.size
  c0 : w.cell? ⟨b, 0, none⟩ = some x
  c1 : w.cell? ⟨b, 1, none⟩ = some y
  f0 : w.frozen? ⟨b, 0, none⟩ = false
  f1 : w.frozen? ⟨b, 1, none⟩ = false
theorem TwoC.far {F : Nat → Prop} {w w' : World} {b : Nat} {x y : Value} (h : TwoC w b x y) (g : Far F w w') (hF : ¬ F b) : TwoC w' b x y :=
  ⟨Nat.lt_of_lt_of_le h.lt g.size, (g.cell (p := ⟨b, 0, none⟩) h.lt hF).trans h.c0, (g.cell (p := ⟨b, 1, none⟩) h.lt hF).trans h.c1, (g.frozen (p := ⟨b, 0, none⟩) h.lt hF).trans h.f0, (g.frozen (p := ⟨b, 1, none⟩) h.lt hF).trans h.f1⟩
theorem TwoC.grew {w w' : World} {b : Nat} {x y : Value} (h : TwoC w b x y) (g : Grew w w') : TwoC w' b x y := h.far (F := fun _ => False) (Far.of_grew g) (fun q => q)
theorem twoC_new (w : World) (x y : Value) (E : TypeId) : ∃ W, w.alloc (.cells #[x, y] E) = W ∧ Grew w W ∧ TwoC W w.heap.size x y :=
  ⟨_, rfl, (Grew.refl _).alloc _, by simp, by simp [go_sem], by simp [go_sem], by simp [go_sem], by simp [go_sem]⟩
theorem TwoC.put1 {w : World} {b : Nat} {x y : Value} (h : TwoC w b x y) (u : Value) : TwoC (w.setCell ⟨b, 1, none⟩ u) b x u := by
  obtain ⟨h1, h2, h3, h5, h6⟩ := h
  exact ⟨by simpa using h1, by simp [go_sem, h2], by simp [go_sem, h3], by simp [go_sem, h5], by simp [go_sem, h6]⟩
theorem twoC_put {w W : World} {b : Nat} (g : Grew w W) (hb : w.heap.size ≤ b) (x y : Value) : Grew w ((W.setCell ⟨b, 0, none⟩ x).setCell ⟨b, 1, none⟩ y) := (g.setCell hb _).setCell hb _
end Go.Proofs.Ytcdmbnbanopioaa
