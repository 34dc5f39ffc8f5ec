/-
  The program's checksums: bytes that are handed on, one by one.
  The program's Fletcher sums: a struct of two bytes that is handed on.
-/
import Derived.Test.YtlcmjedbdopglaaGreatDoorSumX
import Derived.Test.YtlcmjedbdopglaaGreatDoorRowK
import Derived.StillTailTactics
import Derived.Shelf.Abstract
import Derived.Deep.LoopGhost
namespace Go.Proofs.YtlcmjedbdopglaaGreatDoor
open Go.RowKit
set_option linter.unusedVariables false

/- The program's checksums: bytes that are handed on, one by one. -/
set_option maxHeartbeats 1000000 in
theorem through_u8 (g : Nat) (v : Value) (ns : List Nat) (c : Nat) (f : Nat → Nat → Nat) (M : Nat → Prop) (w : World) (h : Row .u8 w v ns) (hB : Bytes ns) (hl : ns.length ≤ 5000)
    (eg : ∀ args w, (callFunc g args).run Tryz.prog w = .ok (.enter g args) w) (h0 : M c)
    (hf : ∀ (a x : Nat) w', M a → x < 256 → Calls Tryz.prog g #[.int .u8 a, .int .u8 x] w' fun e w'' => e = .returned (.int .u8 (f a x : Nat)) ∧ Grew w' w'' ∧ M (f a x)) :
    Calls Tryz.prog 91 #[v, .int .u8 c, .func (.func g) #[] #[]] w fun e w' => e = .returned (.int .u8 (run f c ns ns.length : Nat)) ∧ Grew w w' := by
  have HF : Hid _ := hf
  clear hf
  obtain ⟨A, c', rfl, hc, hr⟩ := h
  have HR := Lib.hid hr
  clear hr
  go_enter Tryz.func91, Tryz.ntmps91
  go_wp2_with fail
  go_loopg [7, 13] (ns.length) (fun kx s7 s13 wr => ∃ k : Nat, k + kx = ns.length ∧ s13 = .int .i64 k ∧ s7 = .int .u8 (run f c ns k : Nat) ∧ Hid (M (run f c ns k)) ∧ Grew w wr)
  case atStart => exact ⟨0, by omega, rfl, rfl, Lib.hid h0, Grew.refl _⟩
  case round =>
    obtain ⟨k, hk, rfl, rfl, hM, hg⟩ := hrel
    by_cases hlt : k < ns.length
    · obtain ⟨b, o, rfl, hb, hcell⟩ := HR.out (by omega)
      have hx := (hg.cell (p := ⟨b, o + k, none⟩) hb).trans (hcell k hlt)
      have H := HF.out (run f c ns k) (wd ns k) wr hM.out (hB k)
      have HS : Hid (f (run f c ns k) (wd ns k) = run f c ns (k + 1)) := Lib.hid rfl
      rw [HS.out] at H
      clear hcell
      go_wp2_with (go_at_fn g; refine H.mono ?_; rintro e w' ⟨rfl, g1, hM1⟩; replace hM1 := Lib.hid hM1)
      go_roundg (ns.length - (k + 1))
      case measure => omega
      case rel => exact ⟨k + 1, by omega, by go_num, rfl, hM1, hg.trans g1⟩
    · obtain rfl : k = ns.length := by omega
      go_wp2_with fail
      go_ret
      exact ⟨rfl, hg⟩

set_option maxHeartbeats 1000000 in
theorem through_u16 (g : Nat) (v : Value) (ns : List Nat) (c : Nat) (f : Nat → Nat → Nat) (M : Nat → Prop) (w : World) (h : Row .u8 w v ns) (hB : Bytes ns) (hl : ns.length ≤ 5000)
    (eg : ∀ args w, (callFunc g args).run Tryz.prog w = .ok (.enter g args) w) (h0 : M c)
    (hf : ∀ (a x : Nat) w', M a → x < 256 → Calls Tryz.prog g #[.int .u16 a, .int .u8 x] w' fun e w'' => e = .returned (.int .u16 (f a x : Nat)) ∧ Grew w' w'' ∧ M (f a x)) :
    Calls Tryz.prog 95 #[v, .int .u16 c, .func (.func g) #[] #[]] w fun e w' => e = .returned (.int .u16 (run f c ns ns.length : Nat)) ∧ Grew w w' := by
  have HF : Hid _ := hf
  clear hf
  obtain ⟨A, c', rfl, hc, hr⟩ := h
  have HR := Lib.hid hr
  clear hr
  go_enter Tryz.func95, Tryz.ntmps95
  go_wp2_with fail
  go_loopg [7, 13] (ns.length) (fun kx s7 s13 wr => ∃ k : Nat, k + kx = ns.length ∧ s13 = .int .i64 k ∧ s7 = .int .u16 (run f c ns k : Nat) ∧ Hid (M (run f c ns k)) ∧ Grew w wr)
  case atStart => exact ⟨0, by omega, rfl, rfl, Lib.hid h0, Grew.refl _⟩
  case round =>
    obtain ⟨k, hk, rfl, rfl, hM, hg⟩ := hrel
    by_cases hlt : k < ns.length
    · obtain ⟨b, o, rfl, hb, hcell⟩ := HR.out (by omega)
      have hx := (hg.cell (p := ⟨b, o + k, none⟩) hb).trans (hcell k hlt)
      have H := HF.out (run f c ns k) (wd ns k) wr hM.out (hB k)
      have HS : Hid (f (run f c ns k) (wd ns k) = run f c ns (k + 1)) := Lib.hid rfl
      rw [HS.out] at H
      clear hcell
      go_wp2_with (go_at_fn g; refine H.mono ?_; rintro e w' ⟨rfl, g1, hM1⟩; replace hM1 := Lib.hid hM1)
      go_roundg (ns.length - (k + 1))
      case measure => omega
      case rel => exact ⟨k + 1, by omega, by go_num, rfl, hM1, hg.trans g1⟩
    · obtain rfl : k = ns.length := by omega
      go_wp2_with fail
      go_ret
      exact ⟨rfl, hg⟩


theorem xor_one (a x : Nat) (w : World) (ha : a < 256) (hx : x < 256) :
    Calls Tryz.prog 92 #[.int .u8 a, .int .u8 x] w fun e w' => e = .returned (.int .u8 (a ^^^ x : Nat)) ∧ Grew w w' := by
  have H := Lib.hid (bits_xor_u8_n a x ha hx)
  go_enter Tryz.func92, Tryz.ntmps92
  go_wp2_with fail
  go_ret
  exact ⟨ret_int H.out, Grew.refl _⟩

set_option maxRecDepth 100000 in
theorem sums_Xor (v : Value) (ns : List Nat) (w : World) (h : Row .u8 w v ns) (hB : Bytes ns) (hl : ns.length ≤ 5000) :
    Calls Tryz.prog 69 #[v] w fun e w' => e = .returned (.int .u8 (xorOf ns : Nat)) ∧ Grew w w' := by
  have H := Lib.hid (through_u8 92 v ns 0 (fun a x => a ^^^ x) (fun a => a < 256) w h hB hl (fun _ _ => rfl) (by decide) (fun a x w' ha hx => (xor_one a x w' ha hx).mono fun e w'' ⟨he, hg⟩ => ⟨he, hg, Nat.xor_lt_two_pow (n := 8) ha hx⟩))
  have E : Hid (run (fun a x => a ^^^ x) 0 ns ns.length = xorOf ns) := Lib.hid rfl
  rw [E.out] at H
  clear h
  go_enter Tryz.func69, Tryz.ntmps69
  go_wp2_with (go_at_call 91; refine H.out.mono ?_; rintro e w' ⟨rfl, g1⟩)
  go_ret
  exact ⟨rfl, g1⟩

theorem fif_one (a x : Nat) (w : World) (ha : a < 65536) (hx : x < 256) :
    Calls Tryz.prog 96 #[.int .u16 a, .int .u8 x] w fun e w' => e = .returned (.int .u16 ((a + x) % 65536 : Nat)) ∧ Grew w w' := by
  go_enter Tryz.func96, Tryz.ntmps96
  go_wp2_with fail
  go_ret
  exact ⟨ret_int (by simp only [wrap_u16]; omega), Grew.refl _⟩

theorem run_mod16 (ns : List Nat) : ∀ k, run (fun a x => (a + x) % 65536) 0 ns k = addTo ns k % 65536
  | 0 => rfl
  | k + 1 => by
    have e : addTo ns (k + 1) = addTo ns k + wd ns k := rfl
    rw [run, run_mod16 ns k, e]; omega
theorem and_fifteen (a : Nat) (h : a < 65536) : bits BinOp.and IntKind.u16 (a : Int) 32767 = ((a % 32768 : Nat) : Int) := by
  have := bits_and_u16_n a 32767 h (by omega)
  rw [show (32767 : Nat) = 2 ^ 15 - 1 from rfl, Nat.and_two_pow_sub_one_eq_mod] at this
  exact this
set_option maxRecDepth 100000 in
theorem sums_Fifteen (v : Value) (ns : List Nat) (w : World) (h : Row .u8 w v ns) (hB : Bytes ns) (hl : ns.length ≤ 5000) :
    Calls Tryz.prog 71 #[v] w fun e w' => e = .returned (.int .u16 (fifOf ns : Nat)) ∧ Grew w w' := by
  have H := Lib.hid (through_u16 96 v ns 0 (fun a x => (a + x) % 65536) (fun a => a < 65536) w h hB hl (fun _ _ => rfl) (by decide) (fun a x w' ha hx => (fif_one a x w' ha hx).mono fun e w'' ⟨he, hg⟩ => ⟨he, hg, Nat.mod_lt _ (by decide)⟩))
  obtain ⟨n, hn⟩ : ∃ n, run (fun a x => (a + x) % 65536) 0 ns ns.length = n := ⟨_, rfl⟩
  have hm := run_mod16 ns ns.length
  rw [hn] at H hm
  have HA := Lib.hid (and_fifteen n (by rw [hm]; exact Nat.mod_lt _ (by decide)))
  have HE : Hid (n % 32768 = fifOf ns) := by show _ = _; rw [hm, fifOf]; omega
  clear hm hn h
  go_enter Tryz.func71, Tryz.ntmps71
  go_wp2_with (go_at_call 95; refine H.out.mono ?_; rintro e w' ⟨rfl, g1⟩)
  go_ret
  exact ⟨ret_int (by rw [← HE.out]; exact HA.out), g1⟩



/- The program's Fletcher sums: a struct of two bytes that is handed on. -/
set_option maxHeartbeats 1000000 in
theorem flet_one (p q x : Nat) (w : World) (hp : p < 256) (hq : q < 256) (hx : x < 256) :
    Calls Tryz.prog 94 #[.agg #[.int .u8 p, .int .u8 q], .int .u8 x] w fun e w' => e = .returned (.agg #[.int .u8 ((p + x) % 256 : Nat), .int .u8 ((q + (p + x) % 256) % 256 : Nat)]) ∧ Grew w w' := by
  go_enter Tryz.func94, Tryz.ntmps94
  go_wp2_with fail
  refine bodyPost_ret (v := .agg #[.int .u8 (((p + x) % 256 : Nat) : Int), .int .u8 (((q + (p + x) % 256) % 256 : Nat) : Int)]) (by simp [results, Tryz.results94, go_sem]) rfl ?_
  exact ⟨rfl, by repeat (first | (with_reducible exact Grew.refl _) | (with_reducible refine Grew.alloc ?_ _) | (refine Grew.setCell ?_ (by simp) _))⟩
/-- A variable of two cells. -/
structure TwoAt (w : World) (b : Nat) (x y : Value) : Prop where
  lt : b < w.heap.size
  c0 : w.cell? ⟨b, 0, none⟩ = some x
  c1 : w.cell? ⟨b, 1, none⟩ = some y
  f0 : w.frozen? ⟨b, 0, none⟩ = false
  f1 : w.frozen? ⟨b, 1, none⟩ = false
theorem TwoAt.grew {w w' : World} {b : Nat} {x y : Value} (h : TwoAt w b x y) (g : Grew w w') : TwoAt w' b x y :=
  ⟨Nat.lt_of_lt_of_le h.lt g.size, (g.cell (p := ⟨b, 0, none⟩) h.lt).trans h.c0, (g.cell (p := ⟨b, 1, none⟩) h.lt).trans h.c1, (g.frozen (p := ⟨b, 0, none⟩) h.lt).trans h.f0, (g.frozen (p := ⟨b, 1, none⟩) h.lt).trans h.f1⟩
theorem TwoAt.set {w : World} {b : Nat} {x y : Value} (h : TwoAt w b x y) (x' y' : Value) : TwoAt ((w.setCell ⟨b, 0, none⟩ x').setCell ⟨b, 1, none⟩ y') b x' y' := by
  have ne : ∀ {i j : Nat}, i ≠ j → (⟨b, i, none⟩ : Addr) ≠ ⟨b, j, none⟩ := fun hj e => hj (by injection e)
  refine ⟨by simpa [World.setCell] using h.lt, ?_, ?_, ?_, ?_⟩
  · rw [World.cell?_setCell_other _ _ _ _ (ne (by omega))]; exact World.cell?_setCell_same _ _ _ h.c0
  · exact World.cell?_setCell_same _ _ _ ((World.cell?_setCell_other _ _ _ _ (ne (by omega))).trans h.c1)
  · simpa using h.f0
  · simpa using h.f1
theorem TwoAt.other {w : World} {b c : Nat} {x y : Value} (h : TwoAt w b x y) (hne : b ≠ c) (x' y' : Value) : TwoAt ((w.setCell ⟨c, 0, none⟩ x').setCell ⟨c, 1, none⟩ y') b x y := by
  have ne : ∀ {i j : Nat}, (⟨c, i, none⟩ : Addr) ≠ ⟨b, j, none⟩ := fun e => hne (by injection e with e; exact e.symm)
  refine ⟨by simpa [World.setCell] using h.lt, ?_, ?_, ?_, ?_⟩
  · rw [World.cell?_setCell_other _ _ _ _ ne, World.cell?_setCell_other _ _ _ _ ne]; exact h.c0
  · rw [World.cell?_setCell_other _ _ _ _ ne, World.cell?_setCell_other _ _ _ _ ne]; exact h.c1
  · simpa using h.f0
  · simpa using h.f1
set_option maxHeartbeats 2000000 in
theorem through_flet (g : Nat) (v : Value) (ns : List Nat) (w : World) (h : Row .u8 w v ns) (hB : Bytes ns) (hl : ns.length ≤ 5000)
    (eg : ∀ args w, (callFunc g args).run Tryz.prog w = .ok (.enter g args) w)
    (hf : ∀ (p q x : Nat) w', p < 256 → q < 256 → x < 256 → Calls Tryz.prog g #[.agg #[.int .u8 p, .int .u8 q], .int .u8 x] w' fun e w'' => e = .returned (.agg #[.int .u8 ((p + x) % 256 : Nat), .int .u8 ((q + (p + x) % 256) % 256 : Nat)]) ∧ Grew w' w'') :
    Calls Tryz.prog 93 #[v, .agg #[.int .u8 0, .int .u8 0], .func (.func g) #[] #[]] w fun e w' => e = .returned (.agg #[.int .u8 (fletA ns : Nat), .int .u8 (fletB ns : Nat)]) ∧ Grew w w' := by
  have HF : Hid _ := hf
  clear hf
  obtain ⟨A, c', rfl, hc, hr⟩ := h
  have HR := Lib.hid hr
  clear hr
  go_enter Tryz.func93, Tryz.ntmps93
  go_wp2_with fail
  go_loopg [13] (ns.length) (fun kx s13 wr => ∃ k P Q : Nat, k + kx = ns.length ∧ s13 = .int .i64 k ∧ Hid (P = addTo ns k % 256) ∧ Hid (Q = fletTo ns k) ∧ P < 256 ∧ Q < 256 ∧ Hid (TwoAt wr (w.heap.size + 2) (.int .u8 P) (.int .u8 Q)) ∧ Hid (TwoAt wr (w.heap.size + 1) (.int .u8 0) (.int .u8 0)) ∧ Grew w wr)
  case atStart =>
    refine ⟨0, 0, 0, by omega, rfl, Lib.hid rfl, Lib.hid rfl, by omega, by omega, Lib.hid ⟨?_, ?_, ?_, ?_, ?_⟩, Lib.hid ⟨?_, ?_, ?_, ?_, ?_⟩, by repeat (first | (with_reducible exact Grew.refl _) | (with_reducible refine Grew.alloc ?_ _) | (refine Grew.setCell ?_ (by simp) _))⟩ <;> simp [go_sem]
  case round =>
    obtain ⟨k, P, Q, hk, rfl, eP, eQ, hP, hQ, HT, HU, hg⟩ := hrel
    by_cases hlt : k < ns.length
    · obtain ⟨b, o, rfl, hb, hcell⟩ := HR.out (by omega)
      have hx := (hg.cell (p := ⟨b, o + k, none⟩) hb).trans (hcell k hlt)
      have H := Lib.hid (HF.out P Q (wd ns k) wr hP hQ (hB k))
      have H1 : Hid ((P + wd ns k) % 256 = addTo ns (k + 1) % 256) := by
        have : addTo ns (k + 1) = addTo ns k + wd ns k := rfl
        show _ = _; rw [eP.out, this]; omega
      have H2 : Hid ((Q + (P + wd ns k) % 256) % 256 = fletTo ns (k + 1)) := by show _ = _; rw [H1.out, fletTo, eQ.out]; omega
      have l1 : (P + wd ns k) % 256 < 256 := Nat.mod_lt _ (by decide)
      have l2 : (Q + (P + wd ns k) % 256) % 256 < 256 := Nat.mod_lt _ (by decide)
      generalize (Q + (P + wd ns k) % 256) % 256 = Q' at *
      generalize (P + wd ns k) % 256 = P' at *
      obtain ⟨lt2, a0, a1, b0, b1⟩ := HT.out
      clear hcell eP eQ
      go_wp2_with (go_at_fn g; refine H.out.mono ?_; rintro e w' ⟨rfl, g1⟩; clear a0 a1 b0 b1; have T := HT.out.grew g1; obtain ⟨a, a0, a1, b0, b1⟩ := T)
      go_roundg (ns.length - (k + 1))
      case measure => omega
      case rel => exact ⟨k + 1, P', Q', by omega, by go_num, H1.out, H2.out, l1, l2, (HT.out.grew g1).set _ _, (HU.out.grew g1).other (by omega) _ _, ((hg.trans g1).setCell (by simp; omega) _).setCell (by simp; omega) _⟩
    · obtain rfl : k = ns.length := by omega
      have H1 : Hid (P = fletA ns) := eP
      have H2 : Hid (Q = fletB ns) := eQ
      clear eP eQ
      obtain ⟨lt2, a0, a1, b0, b1⟩ := HT.out
      obtain ⟨lt1, d0, d1, e0, e1⟩ := HU.out
      go_wp2_with fail
      obtain ⟨z0, z1⟩ : _ ∧ _ := ⟨(HU.out.set (.int .u8 P) (.int .u8 Q)).c0, (HU.out.set (.int .u8 P) (.int .u8 Q)).c1⟩
      refine bodyPost_ret (v := .agg #[.int .u8 P, .int .u8 Q]) (by simp [results, Tryz.results93, go_sem, z0, z1]; try rfl) rfl ?_
      exact ⟨by rw [← H1.out, ← H2.out], (hg.setCell (by simp) _).setCell (by simp) _⟩
set_option maxHeartbeats 1000000 in
set_option maxRecDepth 100000 in
theorem sums_Fletcher (v : Value) (ns : List Nat) (w : World) (h : Row .u8 w v ns) (hB : Bytes ns) (hl : ns.length ≤ 5000) :
    Calls Tryz.prog 70 #[v] w fun e w' => e = .returned (.tuple #[.int .u8 (fletA ns : Nat), .int .u8 (fletB ns : Nat)]) ∧ Grew w w' := by
  have H := Lib.hid (through_flet 94 v ns w h hB hl (fun _ _ => rfl) (fun p q x w' hp hq hx => flet_one p q x w' hp hq hx))
  clear h
  generalize fletA ns = P at *
  generalize fletB ns = Q at *
  go_enter Tryz.func70, Tryz.ntmps70
  go_wp2_with (go_at_call 93; refine H.out.mono ?_; rintro e w' ⟨rfl, g1⟩)
  go_quiet (fail)
  go_wp2_with fail
  go_ret2
  exact ⟨rfl, by repeat (first | (with_reducible exact g1) | (with_reducible refine Grew.drew ?_) | (with_reducible refine Grew.drewN ?_ _) | (with_reducible refine Grew.alloc ?_ _) | (refine Grew.setCell ?_ g1.size _))⟩
end Go.Proofs.YtlcmjedbdopglaaGreatDoor
