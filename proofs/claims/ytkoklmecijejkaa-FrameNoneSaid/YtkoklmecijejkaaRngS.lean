/-
  The document's ring: its first bytes, some gone, another one.
-/
import Derived.Test.YtkoklmecijejkaaRngR
import Derived.Deep.RegionHeld3
namespace Go.Proofs.Ytkoklmecijejkaa
open Go.RowKit
set_option linter.unusedVariables false

/-- Bytes in memory of their own, that may be written over. -/
def Peeked (ms : List Nat) (w : World) (e : Ending) (w' : World) : Prop := ∃ v, e = .returned v ∧ Own w.heap.size 5 .u8 w' v ms ∧ Grew w w'

set_option maxRecDepth 100000 in
set_option maxHeartbeats 2000000 in
theorem ref06_Peek (g size : Nat) (L : Value) (ns : List Nat) (lost : Nat) (n : Int) (w : World) (h : RefAt w g size L ns lost) (hl : ns.length ≤ 100000) (hn : -9223372036854775808 ≤ n ∧ n ≤ 9223372036854775807) :
    Calls Try.prog 43 #[.pointer (some ⟨g, 0, none⟩), .int .i64 n] w (Peeked (ns.take n.toNat) w) := by
  obtain ⟨lt, c0, c1, c2, f1, f2, row, own⟩ := h
  have hO := Own.lit w .u8 5 w.heap.size (Nat.le_refl _) [] (by decide)
  have G0 := (Grew.refl w).alloc (.cells #[] 5)
  have k1 : (w.alloc (.cells #[] 5)).cell? ⟨g, 1, none⟩ = some L := (G0.cell (p := ⟨g, 1, none⟩) lt).trans c1
  obtain ⟨A, c, rfl, hc⟩ := row.form
  have hR0 := row.grew G0
  obtain ⟨m, hm, hml⟩ : ∃ m, min n.toNat ns.length = m ∧ m ≤ ns.length := ⟨_, rfl, Nat.min_le_right _ _⟩
  have ht : Hid (ns.take n.toNat = ns.take m) := by
    show _ = _
    rw [← hm]
    by_cases h : n.toNat ≤ ns.length
    · rw [Nat.min_eq_left h]
    · rw [Nat.min_eq_right (by omega), List.take_of_length_le (by omega), List.take_length]
  have hRm := Lib.hid (hR0.take hml)
  have HTL : Hid ((ns.take m).length ≤ 100000) := by show _ ≤ _; rw [List.length_take]; omega
  have HFIN : ∀ v' w1, Hid (Own w.heap.size 5 .u8 w1 v' ([] ++ ns.take m) → (w.alloc (.cells #[] 5)).grownBy w1 (Value.ownBlock (.slice (some ⟨w.heap.size, 0, none⟩) 0 0)) → Peeked (ns.take m) w (.returned v') w1) := fun v' w1 h1 h2 => ⟨v', rfl, h1, Grew.push G0 hO h2⟩
  rw [ht.out]
  rcases (show (n < 0 ∧ m = 0) ∨ ((0 ≤ n ∧ n ≤ ns.length) ∧ n = m) ∨ ((ns.length : Int) < n ∧ m = ns.length) by omega) with hc1 | hc1 | hc1
  all_goals
    obtain ⟨hc1, hc2⟩ := hc1
    clear hm ht
    subst hc2
    go_enter Try.func43, Try.ntmps43
    go_wp2_with (refine wpList_joinN _ rfl _ _ 23 rfl w.heap.size 5 .u8 1 Try.underlying23 infoU8 (.slice (some ⟨w.heap.size, 0, none⟩) 0 0) [] rfl hO _ _ rfl hRm.out (by have := HTL.out; simp only [List.length_nil, Nat.zero_add, Nat.mul_one]; omega) (by decide) (by simp) ?_; intro v' w1 hown hgrow hnil)
    go_ret
    exact (HFIN _ _).out hown hgrow

theorem ownBlock_map (A : Option Addr) (m n c n' c' : Nat) : (Value.slice (A.map fun x => x.add m) n c).ownBlock = (Value.slice A n' c').ownBlock := by
  cases A with
  | none => rfl
  | some a => simp only [Option.map, Value.ownBlock]; unfold Addr.add; split <;> rfl
theorem ownBlock_same (A : Option Addr) (n c n' c' : Nat) : (Value.slice A n c).ownBlock = (Value.slice A n' c').ownBlock := by cases A <;> rfl
theorem refAt_one {w2 : World} {g size lost : Nat} {L L' : Value} {ns ms : List Nat} (h : RefAt w2 g size L ns lost) (hrow : Row .u8 w2 L' ms) (hown : L'.ownBlock = L.ownBlock) : RefAt (w2.setCell ⟨g, 1, none⟩ L') g size L' ms lost := by
  have ne : ∀ {i j : Nat}, i ≠ j → (⟨g, i, none⟩ : Addr) ≠ ⟨g, j, none⟩ := fun hj e => hj (by injection e)
  have F1 := Far.one w2 ⟨g, 1, none⟩ L'
  refine ⟨by simpa [World.setCell] using h.lt, ?_, World.cell?_setCell_same _ _ _ h.c1, ?_, by simpa [go_sem] using h.f1, by simpa [go_sem] using h.f2, hrow.far F1 (fun b hb => (h.own b (hown ▸ hb)).2), fun b hb => ⟨by simpa [World.setCell] using (h.own b (hown ▸ hb)).1, (h.own b (hown ▸ hb)).2⟩⟩
  · rw [World.cell?_setCell_other _ _ _ _ (ne (by omega))]; exact h.c0
  · rw [World.cell?_setCell_other _ _ _ _ (ne (by omega))]; exact h.c2

def RefDrop (g size : Nat) (L0 : Value) (ns : List Nat) (lost n : Nat) (w : World) (e : Ending) (w' : World) : Prop :=
  ∃ L, e = .returned (.int .i64 ((min n ns.length : Nat) : Int)) ∧ RefAt w' g size L (ns.drop (min n ns.length)) lost ∧ L.ownBlock = L0.ownBlock ∧ Far (fun k => k = g) w w'

set_option maxRecDepth 100000 in
set_option maxHeartbeats 2000000 in
theorem ref06_Drop (g size : Nat) (L : Value) (ns : List Nat) (lost : Nat) (n : Int) (w : World) (h : RefAt w g size L ns lost) (hl : ns.length ≤ 100000) (hn : -9223372036854775808 ≤ n ∧ n ≤ 9223372036854775807) :
    Calls Try.prog 26 #[.pointer (some ⟨g, 0, none⟩), .int .i64 n] w (RefDrop g size L ns lost n.toNat w) := by
  have HP := Lib.hid (ref06_Peek g size L ns lost n w h hl hn)
  have HR := fun w' (k : Grew w w') => Lib.hid (h.grew k)
  have hlen : Hid ((ns.take n.toNat).length = min n.toNat ns.length) := by show _ = _; rw [List.length_take]
  obtain ⟨m, hm⟩ : ∃ m, Hid (min n.toNat ns.length = m) := ⟨_, Lib.hid rfl⟩
  have hml : m ≤ ns.length := by have := hm.out; omega
  have HFIN : ∀ L' w', Hid (RefAt w' g size L' (ns.drop m) lost → L'.ownBlock = L.ownBlock → Far (fun k => k = g) w w' → RefDrop g size L ns lost n.toNat w (.returned (.int .i64 (m : Nat))) w') := fun L' w' => by
    intro a b c
    have e : RefDrop g size L ns lost n.toNat w (.returned (.int .i64 (m : Nat))) w' := by
      refine ⟨L', by rw [hm.out], ?_, b, c⟩
      rw [hm.out]; exact a
    exact e
  clear h
  go_enter Try.func26, Try.ntmps26
  go_wp2_with fail
  refine HP.out.mono ?_
  rintro e w1 ⟨v, rfl, hO, g1⟩
  have HA := HR _ g1
  obtain ⟨lt, c0, c1, c2, f1, f2, row, own⟩ := HA.out
  obtain ⟨A1, k1, rfl, hk1⟩ := hO.row.form
  rw [hlen.out, hm.out]
  obtain ⟨A, c, rfl, hc⟩ := row.form
  have ROW := Lib.hid row
  clear hO row hlen hn HP HR
  have OWN := Lib.hid own
  clear own
  go_wp2_with fail
  case inl =>
    have hcm : c = m := by assumption
    subst hcm
    go_ret
    exact (HFIN _ _).out (refAt_one HA.out (by have := ROW.out.cutE c hml rfl; rwa [Nat.sub_self] at this) (ownBlock_same _ _ _ _ _)) (ownBlock_same _ _ _ _ _) ((Far.of_grew g1).trans (Far.one w1 ⟨g, 1, none⟩ _))
  case inr =>
    go_ret
    exact (HFIN _ _).out (refAt_one HA.out (ROW.out.cutO m hml (by assumption)) (ownBlock_map _ _ _ _ _ _)) (ownBlock_map _ _ _ _ _ _) ((Far.of_grew g1).trans (Far.one w1 ⟨g, 1, none⟩ _))

def RefCopy (size : Nat) (ns : List Nat) (lost : Nat) (w : World) (e : Ending) (w' : World) : Prop :=
  ∃ g L, e = .returned (.pointer (some ⟨g, 0, none⟩)) ∧ RefAt w' g size L ns lost ∧ w.heap.size ≤ g ∧ (∀ b, L.ownBlock = some b → w.heap.size ≤ b) ∧ Grew w w'

end Go.Proofs.Ytkoklmecijejkaa
