/-
  The program's checksums: bytes that are handed on, one by one.
  The program's Fletcher sums: a struct of two bytes that is handed on.
-/
import Derived.Test.YtaaphnlkfmaeeaaSumX
import Derived.Test.YtaaphnlkfmaeeaaRowK
import Derived.StillTailTactics
import Derived.Shelf.Abstract
import Derived.Deep.LoopGhost
namespace Go.Proofs.Ytaaphnlkfmaeeaa
open Go.RowKit
set_option linter.unusedVariables false

/- The program's checksums: bytes that are handed on, one by one. -/









/- The program's Fletcher sums: a struct of two bytes that is handed on. -/
set_option maxHeartbeats 1000000 in
theorem flet_one (p q x : Nat) (w : World) (hp : p < 256) (hq : q < 256) (hx : x < 256) :
    Calls Try.prog 26 #[.agg #[.int .u8 p, .int .u8 q], .int .u8 x] w fun e w' => e = .returned (.agg #[.int .u8 ((p + x) % 256 : Nat), .int .u8 ((q + (p + x) % 256) % 256 : Nat)]) ∧ Grew w w' := by
  go_enter Try.func26, Try.ntmps26
  go_wp2_with fail
  refine bodyPost_ret (v := .agg #[.int .u8 (((p + x) % 256 : Nat) : Int), .int .u8 (((q + (p + x) % 256) % 256 : Nat) : Int)]) (by simp [results, Try.results26, go_sem]) rfl ?_
  exact ⟨rfl, by repeat (first | (with_reducible exact Grew.refl _) | (with_reducible refine Grew.alloc ?_ _) | (refine Grew.setCell ?_ (by simp) _))⟩
/-- A variable of two cells. -/
structure TwoAt (w : World) (b : Nat) (x y : Value) : Prop where
  lt : b < w.heap.size
  c0 : w.cell? ⟨b, 0, none⟩ = some x
  c1 : w.cell? ⟨b, 1, none⟩ = some y
  f0 : w.frozen? ⟨b, 0, none⟩ = false
  f1 : w.frozen? ⟨b, 1, none⟩ = false
theorem TwoAt.grew {w w' : World} {b : Nat} {x y : Value} (h : TwoAt w b x y) (g : Grew w w') : TwoAt w' b x y :=
  ⟨Nat.lt_of_lt_of_le h.lt g.size, (g.cell (p := ⟨b, 0, none⟩) h.lt).trans h.c0, (g.cell (p := ⟨b, 1, none⟩) h.lt).trans h.c1, (g.frozen (p := ⟨b, 0, none⟩) h.lt).trans h.f0, (g.frozen (p := ⟨b, 1, none⟩) h.lt).trans h.f1⟩
theorem TwoAt.set {w : World} {b : Nat} {x y : Value} (h : TwoAt w b x y) (x' y' : Value) : TwoAt ((w.setCell ⟨b, 0, none⟩ x').setCell ⟨b, 1, none⟩ y') b x' y' := by
  have ne : ∀ {i j : Nat}, i ≠ j → (⟨b, i, none⟩ : Addr) ≠ ⟨b, j, none⟩ := fun hj e => hj (by injection e)
  refine ⟨by simpa [World.setCell] using h.lt, ?_, ?_, ?_, ?_⟩
  · rw [World.cell?_setCell_other _ _ _ _ (ne (by omega))]; exact World.cell?_setCell_same _ _ _ h.c0
  · exact World.cell?_setCell_same _ _ _ ((World.cell?_setCell_other _ _ _ _ (ne (by omega))).trans h.c1)
  · simpa using h.f0
  · simpa using h.f1
theorem TwoAt.other {w : World} {b c : Nat} {x y : Value} (h : TwoAt w b x y) (hne : b ≠ c) (x' y' : Value) : TwoAt ((w.setCell ⟨c, 0, none⟩ x').setCell ⟨c, 1, none⟩ y') b x y := by
  have ne : ∀ {i j : Nat}, (⟨c, i, none⟩ : Addr) ≠ ⟨b, j, none⟩ := fun e => hne (by injection e with e; exact e.symm)
  refine ⟨by simpa [World.setCell] using h.lt, ?_, ?_, ?_, ?_⟩
  · rw [World.cell?_setCell_other _ _ _ _ ne, World.cell?_setCell_other _ _ _ _ ne]; exact h.c0
  · rw [World.cell?_setCell_other _ _ _ _ ne, World.cell?_setCell_other _ _ _ _ ne]; exact h.c1
  · simpa using h.f0
  · simpa using h.f1
set_option maxHeartbeats 2000000 in
theorem through_flet (g : Nat) (v : Value) (ns : List Nat) (w : World) (h : Row .u8 w v ns) (hB : Bytes ns) (hl : ns.length ≤ 5000)
    (eg : ∀ args w, (callFunc g args).run Try.prog w = .ok (.enter g args) w)
    (hf : ∀ (p q x : Nat) w', p < 256 → q < 256 → x < 256 → Calls Try.prog g #[.agg #[.int .u8 p, .int .u8 q], .int .u8 x] w' fun e w'' => e = .returned (.agg #[.int .u8 ((p + x) % 256 : Nat), .int .u8 ((q + (p + x) % 256) % 256 : Nat)]) ∧ Grew w' w'') :
    Calls Try.prog 25 #[v, .agg #[.int .u8 0, .int .u8 0], .func (.func g) #[] #[]] w fun e w' => e = .returned (.agg #[.int .u8 (fletA ns : Nat), .int .u8 (fletB ns : Nat)]) ∧ Grew w w' := by
  have HF : Hid _ := hf
  clear hf
  obtain ⟨A, c', rfl, hc, hr⟩ := h
  have HR := Lib.hid hr
  clear hr
  go_enter Try.func25, Try.ntmps25
  go_wp2_with fail
  go_loopg [13] (ns.length) (fun kx s13 wr => ∃ k P Q : Nat, k + kx = ns.length ∧ s13 = .int .i64 k ∧ Hid (P = addTo ns k % 256) ∧ Hid (Q = fletTo ns k) ∧ P < 256 ∧ Q < 256 ∧ Hid (TwoAt wr (w.heap.size + 2) (.int .u8 P) (.int .u8 Q)) ∧ Hid (TwoAt wr (w.heap.size + 1) (.int .u8 0) (.int .u8 0)) ∧ Grew w wr)
  case atStart =>
    refine ⟨0, 0, 0, by omega, rfl, Lib.hid rfl, Lib.hid rfl, by omega, by omega, Lib.hid ⟨?_, ?_, ?_, ?_, ?_⟩, Lib.hid ⟨?_, ?_, ?_, ?_, ?_⟩, by repeat (first | (with_reducible exact Grew.refl _) | (with_reducible refine Grew.alloc ?_ _) | (refine Grew.setCell ?_ (by simp) _))⟩ <;> simp [go_sem]
  case round =>
    obtain ⟨k, P, Q, hk, rfl, eP, eQ, hP, hQ, HT, HU, hg⟩ := hrel
    by_cases hlt : k < ns.length
    · obtain ⟨b, o, rfl, hb, hcell⟩ := HR.out (by omega)
      have hx := (hg.cell (p := ⟨b, o + k, none⟩) hb).trans (hcell k hlt)
      have H := Lib.hid (HF.out P Q (wd ns k) wr hP hQ (hB k))
      have H1 : Hid ((P + wd ns k) % 256 = addTo ns (k + 1) % 256) := by
        have : addTo ns (k + 1) = addTo ns k + wd ns k := rfl
        show _ = _; rw [eP.out, this]; omega
      have H2 : Hid ((Q + (P + wd ns k) % 256) % 256 = fletTo ns (k + 1)) := by show _ = _; rw [H1.out, fletTo, eQ.out]; omega
      have l1 : (P + wd ns k) % 256 < 256 := Nat.mod_lt _ (by decide)
      have l2 : (Q + (P + wd ns k) % 256) % 256 < 256 := Nat.mod_lt _ (by decide)
      generalize (Q + (P + wd ns k) % 256) % 256 = Q' at *
      generalize (P + wd ns k) % 256 = P' at *
      obtain ⟨lt2, a0, a1, b0, b1⟩ := HT.out
      clear hcell eP eQ
      go_wp2_with (go_at_fn g; refine H.out.mono ?_; rintro e w' ⟨rfl, g1⟩; clear a0 a1 b0 b1; have T := HT.out.grew g1; obtain ⟨a, a0, a1, b0, b1⟩ := T)
      go_roundg (ns.length - (k + 1))
      case measure => omega
      case rel => exact ⟨k + 1, P', Q', by omega, by go_num, H1.out, H2.out, l1, l2, (HT.out.grew g1).set _ _, (HU.out.grew g1).other (by omega) _ _, ((hg.trans g1).setCell (by simp; omega) _).setCell (by simp; omega) _⟩
    · obtain rfl : k = ns.length := by omega
      have H1 : Hid (P = fletA ns) := eP
      have H2 : Hid (Q = fletB ns) := eQ
      clear eP eQ
      obtain ⟨lt2, a0, a1, b0, b1⟩ := HT.out
      obtain ⟨lt1, d0, d1, e0, e1⟩ := HU.out
      go_wp2_with fail
      obtain ⟨z0, z1⟩ : _ ∧ _ := ⟨(HU.out.set (.int .u8 P) (.int .u8 Q)).c0, (HU.out.set (.int .u8 P) (.int .u8 Q)).c1⟩
      refine bodyPost_ret (v := .agg #[.int .u8 P, .int .u8 Q]) (by simp [results, Try.results25, go_sem, z0, z1]; try rfl) rfl ?_
      exact ⟨by rw [← H1.out, ← H2.out], (hg.setCell (by simp) _).setCell (by simp) _⟩
set_option maxHeartbeats 1000000 in
set_option maxRecDepth 100000 in
theorem sums_Fletcher (v : Value) (ns : List Nat) (w : World) (h : Row .u8 w v ns) (hB : Bytes ns) (hl : ns.length ≤ 5000) :
    Calls Try.prog 21 #[v] w fun e w' => e = .returned (.tuple #[.int .u8 (fletA ns : Nat), .int .u8 (fletB ns : Nat)]) ∧ Grew w w' := by
  have H := Lib.hid (through_flet 26 v ns w h hB hl (fun _ _ => rfl) (fun p q x w' hp hq hx => flet_one p q x w' hp hq hx))
  clear h
  generalize fletA ns = P at *
  generalize fletB ns = Q at *
  go_enter Try.func21, Try.ntmps21
  go_wp2_with (go_at_call 25; refine H.out.mono ?_; rintro e w' ⟨rfl, g1⟩)
  go_quiet (fail)
  go_wp2_with fail
  go_ret2
  exact ⟨rfl, by repeat (first | (with_reducible exact g1) | (with_reducible refine Grew.drew ?_) | (with_reducible refine Grew.drewN ?_ _) | (with_reducible refine Grew.alloc ?_ _) | (refine Grew.setCell ?_ g1.size _))⟩
end Go.Proofs.Ytaaphnlkfmaeeaa
