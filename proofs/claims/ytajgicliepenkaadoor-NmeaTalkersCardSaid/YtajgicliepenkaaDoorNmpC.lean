/-
  The program's sentences: a reader's times, numbers without a sign, angles.
-/
import Derived.Test.YtajgicliepenkaaDoorNmpB
import Derived.Deep.RegionHeld3
namespace Go.Proofs.YtajgicliepenkaaDoor
open Go.RowKit
set_option linter.unusedVariables false

/-- A time's variable. -/
structure DayAt (w : World) (b : Nat) (t : Nat × Nat × Nat × Bool) : Prop where
  lt : b < w.heap.size
  h : w.heap[b]? = some (.cells #[.int .i64 (t.1 : Nat), .int .i64 (t.2.1 : Nat), .int .i64 (t.2.2.1 : Nat), .bool t.2.2.2] 24)
theorem prefix_minus (s : ByteArray) : Lib.hasPrefix s.data.toList [45] = decide (wd (nat s) 0 = 45) := by
  unfold nat
  cases h : s.data.toList with
  | nil => rfl
  | cons a l =>
    rw [List.map_cons]
    show Lib.hasPrefix (a :: l) [45] = decide (a.toNat = 45)
    simp only [Lib.hasPrefix, List.isPrefixOf, Bool.and_true]
    rw [Bool.eq_iff_iff, beq_iff_eq, decide_eq_true_eq]
    exact ⟨fun e => by rw [← e]; rfl, fun e => (UInt8.toNat_inj.1 (by rw [e]; rfl)).symm⟩
section
variable {w w' : World} {S n c E X : Nat} {bs : List ByteArray} {s : Rs}
set_option maxHeartbeats 1000000 in
theorem r_unsigned (h : Rd w S n c bs E X s) (j : Nat) (x : ByteArray) (hx : bs[j]? = some x) (p : Int) (hp : -9223372036854775808 ≤ p ∧ p ≤ 9223372036854775807) :
    Calls Tryd.prog 41 #[rv S n c E, .int .i64 (j : Nat), .int .i64 p] w
      (Rdt w S n c bs E X (s.1, s.2 || unsBad (nat x) p) (.int .i64 (fixedOf (nat x) p).1)) := by
  obtain ⟨W, hW, gW, ltW, d0, d1⟩ := boxR w S n c E
  obtain ⟨j0, j1, j2, hs⟩ := h.at_ hx
  have hc := (h.grew gW).fields j x hx
  have HP : ∀ w, Hid _ := fun w => Lib.hid (Tryd.strings_HasPrefix x ⟨#[45]⟩ w)
  rw [show (⟨#[45]⟩ : ByteArray).data.toList = [45] from rfl, prefix_minus] at HP
  have HA := fun w' (g : Grew w w') b => Lib.hid (r_ask (h.grew g) b)
  have HF := fun w' s' (h' : Rd w' S n c bs E X s') => Lib.hid (r_fixed h' j x hx p hp)
  unfold Rdt at HA HF
  have hSE := h.SE
  have hSl := h.hS
  have hEl := h.hE
  have KS : ∀ w', FarE E W w' → w'.cell? ⟨w.heap.size, 0, none⟩ = some (.slice (some ⟨S, 0, none⟩) n c) ∧ w'.cell? ⟨w.heap.size, 1, none⟩ = some (.func (.func 9) #[] #[.pointer (some ⟨E, 0, none⟩)]) ∧ w'.cell? ⟨S, j, none⟩ = some (.string x) := fun w' g =>
    ⟨(g.cell (p := ⟨w.heap.size, 0, none⟩) ltW (fun e => by simp only at e; omega)).trans d0, (g.cell (p := ⟨w.heap.size, 1, none⟩) ltW (fun e => by simp only at e; omega)).trans d1, (g.cell (p := ⟨S, j, none⟩) (Nat.lt_of_lt_of_le hSl gW.size) hSE).trans hc⟩
  have GW := Lib.hid gW
  have G : FarE E W W.drew := Far.of_grew (Grew.refl W).drew
  have HU := Lib.hid (show unsBad (nat x) p = (decide (wd (nat x) 0 = 45) || badE (fixedOf (nat x) p).2) from rfl)
  clear h hx hc
  generalize fixedOf (nat x) p = r at *
  generalize decide (wd (nat x) 0 = 45) = b at *
  unfold rv at HF HA ⊢
  go_enter Tryd.func41, Tryd.ntmps41
  go_upto_region 1 with fail
  go_region_held3 (fun w' => w'.cell? ⟨w.heap.size, 0, none⟩ = some (.slice (some ⟨S, 0, none⟩) n c) ∧ w'.cell? ⟨w.heap.size, 1, none⟩ = some (.func (.func 9) #[] #[.pointer (some ⟨E, 0, none⟩)]) ∧ w'.cell? ⟨S, j, none⟩ = some (.string x)) (exact KS _ G)
    (first | (go_at_call 12; refine (HP _).out.mono ?_; rintro e w1 ⟨rfl, rfl⟩) | (go_at_call 19; refine (HA _ (GW.out.trans (Grew.refl W).drew) _).out.mono ?_; rintro e w1 ⟨rfl, hh, gg⟩; replace G := G.trans gg))
  rw [Bool.not_not] at hh
  obtain ⟨k0, k1, _⟩ := KS _ G
  have HF2 := HF _ _ hh
  clear HF HA HP KS hh
  go_wp2_with (go_at_call 44; refine HF2.out.mono ?_; rintro e w2 ⟨rfl, h2, g2⟩)
  go_ret
  exact ⟨rfl, by rw [HU.out, ← Bool.or_assoc]; exact h2, ((Far.of_grew GW.out).trans G).trans g2⟩
end
end Go.Proofs.YtajgicliepenkaaDoor
