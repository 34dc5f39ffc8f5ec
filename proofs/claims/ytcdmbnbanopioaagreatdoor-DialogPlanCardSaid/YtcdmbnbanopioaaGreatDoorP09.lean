/-
  The program's checksums: bytes that are handed on, one by one.
  The program's Fletcher sums: a struct of two bytes that is handed on.
  The program's frames: a frame's bytes, of a sentence.
  The program's frames: the bytes of the two kinds that count their bytes; a frame's bytes, whole.
  The program's sentences: bytes of a body, commands, times.
  The document's sentences: bytes of a body, letters, digits, commands.
  The program's sentences: a second's.
  The document's sentences: commands, a second's.
-/
import Derived.Test.YtcdmbnbanopioaaGreatDoorP07
import Derived.Test.YtcdmbnbanopioaaGreatDoorP02
import Derived.StillTailTactics
import Derived.Shelf.Abstract
import Derived.Deep.LoopGhost
import Derived.Test.YtcdmbnbanopioaaGreatDoorP08
import Derived.LoopTactic
import Derived.Deep.RegionHeld3
import Derived.Laws.Bits64b
import Derived.Deep.RegionLaw
import Derived.Deep.QuietTactic
import Derived.BigQuiet
import Derived.Test.YtcdmbnbanopioaaGreatDoorP03

namespace Go.Proofs.YtcdmbnbanopioaaGreatDoor
open Go.RowKit
set_option linter.unusedVariables false

/- The program's checksums: bytes that are handed on, one by one. -/
set_option maxHeartbeats 1000000 in
theorem through_u8 (g : Nat) (v : Value) (ns : List Nat) (c : Nat) (f : Nat → Nat → Nat) (M : Nat → Prop) (w : World) (h : Row .u8 w v ns) (hB : Bytes ns) (hl : ns.length ≤ 5000)
    (eg : ∀ args w, (callFunc g args).run Tryz.prog w = .ok (.enter g args) w) (h0 : M c)
    (hf : ∀ (a x : Nat) w', M a → x < 256 → Calls Tryz.prog g #[.int .u8 a, .int .u8 x] w' fun e w'' => e = .returned (.int .u8 (f a x : Nat)) ∧ Grew w' w'' ∧ M (f a x)) :
    Calls Tryz.prog 104 #[v, .int .u8 c, .func (.func g) #[] #[]] w fun e w' => e = .returned (.int .u8 (run f c ns ns.length : Nat)) ∧ Grew w w' := by
  have HF : Hid _ := hf
  clear hf
  obtain ⟨A, c', rfl, hc, hr⟩ := h
  have HR := Lib.hid hr
  clear hr
  go_enter Tryz.func104, Tryz.ntmps104
  go_wp2_with fail
  go_loopg [7, 13] (ns.length) (fun kx s7 s13 wr => ∃ k : Nat, k + kx = ns.length ∧ s13 = .int .i64 k ∧ s7 = .int .u8 (run f c ns k : Nat) ∧ Hid (M (run f c ns k)) ∧ Grew w wr)
  case atStart => exact ⟨0, by omega, rfl, rfl, Lib.hid h0, Grew.refl _⟩
  case round =>
    obtain ⟨k, hk, rfl, rfl, hM, hg⟩ := hrel
    by_cases hlt : k < ns.length
    · obtain ⟨b, o, rfl, hb, hcell⟩ := HR.out (by omega)
      have hx := (hg.cell (p := ⟨b, o + k, none⟩) hb).trans (hcell k hlt)
      have H := HF.out (run f c ns k) (wd ns k) wr hM.out (hB k)
      have HS : Hid (f (run f c ns k) (wd ns k) = run f c ns (k + 1)) := Lib.hid rfl
      rw [HS.out] at H
      clear hcell
      go_wp2_with (go_at_fn g; refine H.mono ?_; rintro e w' ⟨rfl, g1, hM1⟩; replace hM1 := Lib.hid hM1)
      go_roundg (ns.length - (k + 1))
      case measure => omega
      case rel => exact ⟨k + 1, by omega, by go_num, rfl, hM1, hg.trans g1⟩
    · obtain rfl : k = ns.length := by omega
      go_wp2_with fail
      go_ret
      exact ⟨rfl, hg⟩

set_option maxHeartbeats 1000000 in
theorem through_u16 (g : Nat) (v : Value) (ns : List Nat) (c : Nat) (f : Nat → Nat → Nat) (M : Nat → Prop) (w : World) (h : Row .u8 w v ns) (hB : Bytes ns) (hl : ns.length ≤ 5000)
    (eg : ∀ args w, (callFunc g args).run Tryz.prog w = .ok (.enter g args) w) (h0 : M c)
    (hf : ∀ (a x : Nat) w', M a → x < 256 → Calls Tryz.prog g #[.int .u16 a, .int .u8 x] w' fun e w'' => e = .returned (.int .u16 (f a x : Nat)) ∧ Grew w' w'' ∧ M (f a x)) :
    Calls Tryz.prog 73 #[v, .int .u16 c, .func (.func g) #[] #[]] w fun e w' => e = .returned (.int .u16 (run f c ns ns.length : Nat)) ∧ Grew w w' := by
  have HF : Hid _ := hf
  clear hf
  obtain ⟨A, c', rfl, hc, hr⟩ := h
  have HR := Lib.hid hr
  clear hr
  go_enter Tryz.func73, Tryz.ntmps73
  go_wp2_with fail
  go_loopg [7, 13] (ns.length) (fun kx s7 s13 wr => ∃ k : Nat, k + kx = ns.length ∧ s13 = .int .i64 k ∧ s7 = .int .u16 (run f c ns k : Nat) ∧ Hid (M (run f c ns k)) ∧ Grew w wr)
  case atStart => exact ⟨0, by omega, rfl, rfl, Lib.hid h0, Grew.refl _⟩
  case round =>
    obtain ⟨k, hk, rfl, rfl, hM, hg⟩ := hrel
    by_cases hlt : k < ns.length
    · obtain ⟨b, o, rfl, hb, hcell⟩ := HR.out (by omega)
      have hx := (hg.cell (p := ⟨b, o + k, none⟩) hb).trans (hcell k hlt)
      have H := HF.out (run f c ns k) (wd ns k) wr hM.out (hB k)
      have HS : Hid (f (run f c ns k) (wd ns k) = run f c ns (k + 1)) := Lib.hid rfl
      rw [HS.out] at H
      clear hcell
      go_wp2_with (go_at_fn g; refine H.mono ?_; rintro e w' ⟨rfl, g1, hM1⟩; replace hM1 := Lib.hid hM1)
      go_roundg (ns.length - (k + 1))
      case measure => omega
      case rel => exact ⟨k + 1, by omega, by go_num, rfl, hM1, hg.trans g1⟩
    · obtain rfl : k = ns.length := by omega
      go_wp2_with fail
      go_ret
      exact ⟨rfl, hg⟩


theorem xor_one (a x : Nat) (w : World) (ha : a < 256) (hx : x < 256) :
    Calls Tryz.prog 105 #[.int .u8 a, .int .u8 x] w fun e w' => e = .returned (.int .u8 (a ^^^ x : Nat)) ∧ Grew w w' := by
  have H := Lib.hid (bits_xor_u8_n a x ha hx)
  go_enter Tryz.func105, Tryz.ntmps105
  go_wp2_with fail
  go_ret
  exact ⟨ret_int H.out, Grew.refl _⟩

set_option maxRecDepth 100000 in
theorem sums_Xor (v : Value) (ns : List Nat) (w : World) (h : Row .u8 w v ns) (hB : Bytes ns) (hl : ns.length ≤ 5000) :
    Calls Tryz.prog 96 #[v] w fun e w' => e = .returned (.int .u8 (xorOf ns : Nat)) ∧ Grew w w' := by
  have H := Lib.hid (through_u8 105 v ns 0 (fun a x => a ^^^ x) (fun a => a < 256) w h hB hl (fun _ _ => rfl) (by decide) (fun a x w' ha hx => (xor_one a x w' ha hx).mono fun e w'' ⟨he, hg⟩ => ⟨he, hg, Nat.xor_lt_two_pow (n := 8) ha hx⟩))
  have E : Hid (run (fun a x => a ^^^ x) 0 ns ns.length = xorOf ns) := Lib.hid rfl
  rw [E.out] at H
  clear h
  go_enter Tryz.func96, Tryz.ntmps96
  go_wp2_with (go_at_call 104; refine H.out.mono ?_; rintro e w' ⟨rfl, g1⟩)
  go_ret
  exact ⟨rfl, g1⟩

theorem fif_one (a x : Nat) (w : World) (ha : a < 65536) (hx : x < 256) :
    Calls Tryz.prog 74 #[.int .u16 a, .int .u8 x] w fun e w' => e = .returned (.int .u16 ((a + x) % 65536 : Nat)) ∧ Grew w w' := by
  go_enter Tryz.func74, Tryz.ntmps74
  go_wp2_with fail
  go_ret
  exact ⟨ret_int (by simp only [wrap_u16]; omega), Grew.refl _⟩

theorem run_mod16 (ns : List Nat) : ∀ k, run (fun a x => (a + x) % 65536) 0 ns k = addTo ns k % 65536
  | 0 => rfl
  | k + 1 => by
    have e : addTo ns (k + 1) = addTo ns k + wd ns k := rfl
    rw [run, run_mod16 ns k, e]; omega
theorem and_fifteen (a : Nat) (h : a < 65536) : bits BinOp.and IntKind.u16 (a : Int) 32767 = ((a % 32768 : Nat) : Int) := by
  have := bits_and_u16_n a 32767 h (by omega)
  rw [show (32767 : Nat) = 2 ^ 15 - 1 from rfl, Nat.and_two_pow_sub_one_eq_mod] at this
  exact this
set_option maxRecDepth 100000 in
theorem sums_Fifteen (v : Value) (ns : List Nat) (w : World) (h : Row .u8 w v ns) (hB : Bytes ns) (hl : ns.length ≤ 5000) :
    Calls Tryz.prog 49 #[v] w fun e w' => e = .returned (.int .u16 (fifOf ns : Nat)) ∧ Grew w w' := by
  have H := Lib.hid (through_u16 74 v ns 0 (fun a x => (a + x) % 65536) (fun a => a < 65536) w h hB hl (fun _ _ => rfl) (by decide) (fun a x w' ha hx => (fif_one a x w' ha hx).mono fun e w'' ⟨he, hg⟩ => ⟨he, hg, Nat.mod_lt _ (by decide)⟩))
  obtain ⟨n, hn⟩ : ∃ n, run (fun a x => (a + x) % 65536) 0 ns ns.length = n := ⟨_, rfl⟩
  have hm := run_mod16 ns ns.length
  rw [hn] at H hm
  have HA := Lib.hid (and_fifteen n (by rw [hm]; exact Nat.mod_lt _ (by decide)))
  have HE : Hid (n % 32768 = fifOf ns) := by show _ = _; rw [hm, fifOf]; omega
  clear hm hn h
  go_enter Tryz.func49, Tryz.ntmps49
  go_wp2_with (go_at_call 73; refine H.out.mono ?_; rintro e w' ⟨rfl, g1⟩)
  go_ret
  exact ⟨ret_int (by rw [← HE.out]; exact HA.out), g1⟩



/- The program's Fletcher sums: a struct of two bytes that is handed on. -/
set_option maxHeartbeats 1000000 in
theorem flet_one (p q x : Nat) (w : World) (hp : p < 256) (hq : q < 256) (hx : x < 256) :
    Calls Tryz.prog 69 #[.agg #[.int .u8 p, .int .u8 q], .int .u8 x] w fun e w' => e = .returned (.agg #[.int .u8 ((p + x) % 256 : Nat), .int .u8 ((q + (p + x) % 256) % 256 : Nat)]) ∧ Grew w w' := by
  go_enter Tryz.func69, Tryz.ntmps69
  go_wp2_with fail
  refine bodyPost_ret (v := .agg #[.int .u8 (((p + x) % 256 : Nat) : Int), .int .u8 (((q + (p + x) % 256) % 256 : Nat) : Int)]) (by simp [results, Tryz.results69, go_sem]) rfl ?_
  exact ⟨rfl, by repeat (first | (with_reducible exact Grew.refl _) | (with_reducible refine Grew.alloc ?_ _) | (refine Grew.setCell ?_ (by simp) _))⟩
/-- A variable of two cells. -/
structure TwoAt (w : World) (b : Nat) (x y : Value) : Prop where
  lt : b < w.heap.size
  c0 : w.cell? ⟨b, 0, none⟩ = some x
  c1 : w.cell? ⟨b, 1, none⟩ = some y
  f0 : w.frozen? ⟨b, 0, none⟩ = false
  f1 : w.frozen? ⟨b, 1, none⟩ = false
theorem TwoAt.grew {w w' : World} {b : Nat} {x y : Value} (h : TwoAt w b x y) (g : Grew w w') : TwoAt w' b x y :=
  ⟨Nat.lt_of_lt_of_le h.lt g.size, (g.cell (p := ⟨b, 0, none⟩) h.lt).trans h.c0, (g.cell (p := ⟨b, 1, none⟩) h.lt).trans h.c1, (g.frozen (p := ⟨b, 0, none⟩) h.lt).trans h.f0, (g.frozen (p := ⟨b, 1, none⟩) h.lt).trans h.f1⟩
theorem TwoAt.set {w : World} {b : Nat} {x y : Value} (h : TwoAt w b x y) (x' y' : Value) : TwoAt ((w.setCell ⟨b, 0, none⟩ x').setCell ⟨b, 1, none⟩ y') b x' y' := by
  have ne : ∀ {i j : Nat}, i ≠ j → (⟨b, i, none⟩ : Addr) ≠ ⟨b, j, none⟩ := fun hj e => hj (by injection e)
  refine ⟨by simpa [World.setCell] using h.lt, ?_, ?_, ?_, ?_⟩
  · rw [World.cell?_setCell_other _ _ _ _ (ne (by omega))]; exact World.cell?_setCell_same _ _ _ h.c0
  · exact World.cell?_setCell_same _ _ _ ((World.cell?_setCell_other _ _ _ _ (ne (by omega))).trans h.c1)
  · simpa using h.f0
  · simpa using h.f1
theorem TwoAt.other {w : World} {b c : Nat} {x y : Value} (h : TwoAt w b x y) (hne : b ≠ c) (x' y' : Value) : TwoAt ((w.setCell ⟨c, 0, none⟩ x').setCell ⟨c, 1, none⟩ y') b x y := by
  have ne : ∀ {i j : Nat}, (⟨c, i, none⟩ : Addr) ≠ ⟨b, j, none⟩ := fun e => hne (by injection e with e; exact e.symm)
  refine ⟨by simpa [World.setCell] using h.lt, ?_, ?_, ?_, ?_⟩
  · rw [World.cell?_setCell_other _ _ _ _ ne, World.cell?_setCell_other _ _ _ _ ne]; exact h.c0
  · rw [World.cell?_setCell_other _ _ _ _ ne, World.cell?_setCell_other _ _ _ _ ne]; exact h.c1
  · simpa using h.f0
  · simpa using h.f1
set_option maxHeartbeats 2000000 in
theorem through_flet (g : Nat) (v : Value) (ns : List Nat) (w : World) (h : Row .u8 w v ns) (hB : Bytes ns) (hl : ns.length ≤ 5000)
    (eg : ∀ args w, (callFunc g args).run Tryz.prog w = .ok (.enter g args) w)
    (hf : ∀ (p q x : Nat) w', p < 256 → q < 256 → x < 256 → Calls Tryz.prog g #[.agg #[.int .u8 p, .int .u8 q], .int .u8 x] w' fun e w'' => e = .returned (.agg #[.int .u8 ((p + x) % 256 : Nat), .int .u8 ((q + (p + x) % 256) % 256 : Nat)]) ∧ Grew w' w'') :
    Calls Tryz.prog 68 #[v, .agg #[.int .u8 0, .int .u8 0], .func (.func g) #[] #[]] w fun e w' => e = .returned (.agg #[.int .u8 (fletA ns : Nat), .int .u8 (fletB ns : Nat)]) ∧ Grew w w' := by
  have HF : Hid _ := hf
  clear hf
  obtain ⟨A, c', rfl, hc, hr⟩ := h
  have HR := Lib.hid hr
  clear hr
  go_enter Tryz.func68, Tryz.ntmps68
  go_wp2_with fail
  go_loopg [13] (ns.length) (fun kx s13 wr => ∃ k P Q : Nat, k + kx = ns.length ∧ s13 = .int .i64 k ∧ Hid (P = addTo ns k % 256) ∧ Hid (Q = fletTo ns k) ∧ P < 256 ∧ Q < 256 ∧ Hid (TwoAt wr (w.heap.size + 2) (.int .u8 P) (.int .u8 Q)) ∧ Hid (TwoAt wr (w.heap.size + 1) (.int .u8 0) (.int .u8 0)) ∧ Grew w wr)
  case atStart =>
    refine ⟨0, 0, 0, by omega, rfl, Lib.hid rfl, Lib.hid rfl, by omega, by omega, Lib.hid ⟨?_, ?_, ?_, ?_, ?_⟩, Lib.hid ⟨?_, ?_, ?_, ?_, ?_⟩, by repeat (first | (with_reducible exact Grew.refl _) | (with_reducible refine Grew.alloc ?_ _) | (refine Grew.setCell ?_ (by simp) _))⟩ <;> simp [go_sem]
  case round =>
    obtain ⟨k, P, Q, hk, rfl, eP, eQ, hP, hQ, HT, HU, hg⟩ := hrel
    by_cases hlt : k < ns.length
    · obtain ⟨b, o, rfl, hb, hcell⟩ := HR.out (by omega)
      have hx := (hg.cell (p := ⟨b, o + k, none⟩) hb).trans (hcell k hlt)
      have H := Lib.hid (HF.out P Q (wd ns k) wr hP hQ (hB k))
      have H1 : Hid ((P + wd ns k) % 256 = addTo ns (k + 1) % 256) := by
        have : addTo ns (k + 1) = addTo ns k + wd ns k := rfl
        show _ = _; rw [eP.out, this]; omega
      have H2 : Hid ((Q + (P + wd ns k) % 256) % 256 = fletTo ns (k + 1)) := by show _ = _; rw [H1.out, fletTo, eQ.out]; omega
      have l1 : (P + wd ns k) % 256 < 256 := Nat.mod_lt _ (by decide)
      have l2 : (Q + (P + wd ns k) % 256) % 256 < 256 := Nat.mod_lt _ (by decide)
      generalize (Q + (P + wd ns k) % 256) % 256 = Q' at *
      generalize (P + wd ns k) % 256 = P' at *
      obtain ⟨lt2, a0, a1, b0, b1⟩ := HT.out
      clear hcell eP eQ
      go_wp2_with (go_at_fn g; refine H.out.mono ?_; rintro e w' ⟨rfl, g1⟩; clear a0 a1 b0 b1; have T := HT.out.grew g1; obtain ⟨a, a0, a1, b0, b1⟩ := T)
      go_roundg (ns.length - (k + 1))
      case measure => omega
      case rel => exact ⟨k + 1, P', Q', by omega, by go_num, H1.out, H2.out, l1, l2, (HT.out.grew g1).set _ _, (HU.out.grew g1).other (by omega) _ _, ((hg.trans g1).setCell (by simp; omega) _).setCell (by simp; omega) _⟩
    · obtain rfl : k = ns.length := by omega
      have H1 : Hid (P = fletA ns) := eP
      have H2 : Hid (Q = fletB ns) := eQ
      clear eP eQ
      obtain ⟨lt2, a0, a1, b0, b1⟩ := HT.out
      obtain ⟨lt1, d0, d1, e0, e1⟩ := HU.out
      go_wp2_with fail
      obtain ⟨z0, z1⟩ : _ ∧ _ := ⟨(HU.out.set (.int .u8 P) (.int .u8 Q)).c0, (HU.out.set (.int .u8 P) (.int .u8 Q)).c1⟩
      refine bodyPost_ret (v := .agg #[.int .u8 P, .int .u8 Q]) (by simp [results, Tryz.results68, go_sem, z0, z1]; try rfl) rfl ?_
      exact ⟨by rw [← H1.out, ← H2.out], (hg.setCell (by simp) _).setCell (by simp) _⟩
set_option maxHeartbeats 1000000 in
set_option maxRecDepth 100000 in
theorem sums_Fletcher (v : Value) (ns : List Nat) (w : World) (h : Row .u8 w v ns) (hB : Bytes ns) (hl : ns.length ≤ 5000) :
    Calls Tryz.prog 47 #[v] w fun e w' => e = .returned (.tuple #[.int .u8 (fletA ns : Nat), .int .u8 (fletB ns : Nat)]) ∧ Grew w w' := by
  have H := Lib.hid (through_flet 69 v ns w h hB hl (fun _ _ => rfl) (fun p q x w' hp hq hx => flet_one p q x w' hp hq hx))
  clear h
  generalize fletA ns = P at *
  generalize fletB ns = Q at *
  go_enter Tryz.func47, Tryz.ntmps47
  go_wp2_with (go_at_call 68; refine H.out.mono ?_; rintro e w' ⟨rfl, g1⟩)
  go_quiet (fail)
  go_wp2_with fail
  go_ret2
  exact ⟨rfl, by repeat (first | (with_reducible exact g1) | (with_reducible refine Grew.drew ?_) | (with_reducible refine Grew.drewN ?_ _) | (with_reducible refine Grew.alloc ?_ _) | (refine Grew.setCell ?_ g1.size _))⟩
end Go.Proofs.YtcdmbnbanopioaaGreatDoor

namespace Go.Proofs.YtcdmbnbanopioaaGreatDoor
open Go.RowKit
set_option linter.unusedVariables false

/- The program's frames: a frame's bytes, of a sentence. -/
theorem prog_inNMEA (x : Nat) (w : World) (hx : x < 256) : Calls Tryz.prog 95 #[.int .u8 x] w fun e w' => e = .returned (.bool (may x)) ∧ w = w' := by
  have hm : may x = (decide ((32 : Int) ≤ x) && decide ((x : Int) ≤ 126) && decide ((x : Int) ≠ 36) && decide ((x : Int) ≠ 42)) := by
    unfold may
    rw [Bool.eq_iff_iff]
    simp
    omega
  rw [hm]
  clear hm
  go_enter Tryz.func95, Tryz.ntmps95
  go_wp2
  all_goals go_ret
  all_goals (refine ⟨frm_ret_bool ?_, rfl⟩; rw [Bool.eq_iff_iff]; simp)
  all_goals omega
theorem prog_nmea1 (x : Nat) (w : World) (hx : x < 256) : Calls Tryz.prog 94 #[.int .u8 x] w fun e w' => e = .returned (.bool (!may x)) ∧ w = w' := by
  have H := Lib.hid (prog_inNMEA x w hx)
  go_enter Tryz.func94, Tryz.ntmps94
  go_wp2_with fail
  refine H.out.mono ?_
  rintro e w1 ⟨rfl, rfl⟩
  go_wp2_with fail
  go_ret
  exact ⟨rfl, rfl⟩

/-- Is there a byte that may not stand in a sentence? -/
theorem prog_indexFunc (v : Value) (ns : List Nat) (w : World) (h : Row .u8 w v ns) (hB : Bytes ns) (hl : ns.length ≤ 5000) :
    Calls Tryz.prog 103 #[v, .func (.func 94) #[] #[]] w fun e w' => (∃ i : Int, e = .returned (.int .i64 i) ∧ decide (0 ≤ i) = !ns.all may ∧ -1 ≤ i ∧ i ≤ 5000) ∧ Grew w w' := by
  have HM := fun x w hx => Lib.hid (prog_nmea1 x w hx)
  obtain ⟨A, c', rfl, hc, hr⟩ := h
  have HR := Lib.hid hr
  clear hr
  go_enter Tryz.func103, Tryz.ntmps103
  go_wp2_with fail
  go_loopw [8] (fun i wr => ∃ j : Nat, j ≤ ns.length ∧ i = .int .i64 (j : Nat) ∧ Hid (∀ i, i < j → may (wd ns i) = true) ∧ Grew w wr) (fun i _ => ns.length - (intOf i).toNat)
  case atStart => exact ⟨0, by omega, rfl, fun i hi => by omega, Grew.refl _⟩
  case round =>
    obtain ⟨j, hj, rfl, hM, hg⟩ := hrel
    by_cases hlt : j < ns.length
    · obtain ⟨rb, ro, rfl, hrb, hcell⟩ := HR.out (by omega)
      have y0 := (hg.cell (p := ⟨rb, ro + j, none⟩) hrb).trans (hcell j (by omega))
      have hx256 := hB j
      clear hcell hrb
      have j0 : (0 : Int) ≤ j := by omega
      have j1 : (j : Int) < ns.length := by omega
      by_cases hmay : may (wd ns j) = true
      · have H1 := fun w => (HM (wd ns j) w hx256).out
        rw [hmay] at H1
        have HS : Hid (∀ i, i < j + 1 → may (wd ns i) = true) := fun i hi => by
          rcases Nat.lt_or_ge i j with h | h
          · exact hM.out i h
          · obtain rfl : i = j := by omega
            exact hmay
        have H1' := fun w => Lib.hid (H1 w)
        clear H1 hM hmay
        generalize wd ns j = x at *
        go_wp2_with fail
        refine (H1' _).out.mono ?_
        rintro e w1 ⟨rfl, rfl⟩
        go_wp2_with fail
        go_roundw
        case rel => exact ⟨j + 1, by omega, by simp, HS, hg⟩
        case measure => simp [intOf]; omega
      · have hmf : may (wd ns j) = false := by simpa using hmay
        have H1 := fun w => (HM (wd ns j) w hx256).out
        rw [hmf] at H1
        have H1' := fun w => Lib.hid (H1 w)
        have HA : Hid (ns.all may = false) := by
          show _ = _
          rw [List.all_eq_false]
          refine ⟨ns[j], List.getElem_mem hlt, ?_⟩
          rw [← wd_lt hlt, hmf]; simp
        clear H1 hM hmay hmf
        generalize wd ns j = x at *
        go_wp2_with fail
        refine (H1' _).out.mono ?_
        rintro e w1 ⟨rfl, rfl⟩
        go_wp2_with fail
        go_ret
        exact ⟨⟨j, rfl, by rw [HA.out]; simp, by omega, by omega⟩, hg⟩
    · obtain rfl : j = ns.length := by omega
      have HA : Hid (ns.all may = true) := by
        show _ = _
        rw [List.all_eq_true]
        intro x hx
        obtain ⟨i, hi, rfl⟩ := List.getElem_of_mem hx
        rw [← wd_lt hi]; exact hM.out i hi
      go_wp2_with fail
      go_ret
      exact ⟨⟨-1, rfl, by rw [HA.out]; simp, by omega, by omega⟩, hg⟩
theorem prog_containsFunc (v : Value) (ns : List Nat) (w : World) (h : Row .u8 w v ns) (hB : Bytes ns) (hl : ns.length ≤ 5000) :
    Calls Tryz.prog 93 #[v, .func (.func 94) #[] #[]] w fun e w' => e = .returned (.bool (!ns.all may)) ∧ Grew w w' := by
  have H := Lib.hid (prog_indexFunc v ns w h hB hl)
  clear h
  generalize ns.all may = b at *
  go_enter Tryz.func93, Tryz.ntmps93
  go_wp2_with fail
  refine H.out.mono ?_
  rintro e w1 ⟨⟨i, rfl, hi, hi1, hi2⟩, g1⟩
  go_wp2_with fail
  go_ret
  exact ⟨by rw [← hi]; rfl, g1⟩

theorem and15 (x : Nat) (h : x < 256) : bits BinOp.and IntKind.u8 (x : Int) 15 = (x : Int) % 16 := by
  have := bits_and_u8_n x 15 h (by decide)
  rw [show ((15 : Nat) : Int) = 15 from rfl] at this
  rw [this, show (15 : Nat) = 2 ^ 4 - 1 from rfl, Nat.and_two_pow_sub_one_eq_mod]
  omega
def hexText : ByteArray := { data := #[48, 49, 50, 51, 52, 53, 54, 55, 56, 57, 65, 66, 67, 68, 69, 70] }
set_option maxRecDepth 100000 in
theorem hex_at (n : Nat) (h : n < 16) (w : World) : Sem.run Tryz.prog (Instr.index 9 (.string hexText) (.int .u8 (n : Nat))) w = .ok (.int .u8 (digit n : Nat)) w := by
  have h : n = 0 ∨ n = 1 ∨ n = 2 ∨ n = 3 ∨ n = 4 ∨ n = 5 ∨ n = 6 ∨ n = 7 ∨ n = 8 ∨ n = 9 ∨ n = 10 ∨ n = 11 ∨ n = 12 ∨ n = 13 ∨ n = 14 ∨ n = 15 := by omega
  rcases h with rfl | rfl | rfl | rfl | rfl | rfl | rfl | rfl | rfl | rfl | rfl | rfl | rfl | rfl | rfl | rfl <;> rfl

/-- A frame's bytes, as the program tells them. -/
def BytesRow (k : Nat) (ns : List Nat) (w : World) (e : Ending) (w' : World) : Prop := BytesTells k ns w e w'

set_option maxRecDepth 100000 in
set_option maxHeartbeats 2000000 in
theorem prog_nmeaBytes (v : Value) (ns : List Nat) (w : World) (hR : Row .u8 w v ns) (hB : Bytes ns) (hl : ns.length ≤ 5000) :
    Calls Tryz.prog 78 #[v] w (BytesTells 1 ns w) := by
  obtain ⟨A, c, rfl, hc⟩ := hR.form
  by_cases h76 : 76 < ns.length
  · have H := fun w' (g : Grew w w') => Lib.hid (bytesTells_no (k := 1) (ns := ns) 3 (by unfold frameErr; simp [h76]) (by omega) g)
    go_enter Tryz.func78, Tryz.ntmps78
    go_wp2_with fail
    go_ret2
    exact (H _ (Grew.refl w)).out
  · have HC := Lib.hid (prog_containsFunc _ ns w hR hB hl)
    cases ha : ns.all may
    · rw [ha] at HC
      have H := fun w' (g : Grew w w') => Lib.hid (bytesTells_no (k := 1) (ns := ns) 5 (by unfold frameErr; simp only [if_true, if_neg h76, ha]; simp) (by omega) g)
      clear ha
      go_enter Tryz.func78, Tryz.ntmps78
      go_wp2_with fail
      refine HC.out.mono ?_
      rintro e w1 ⟨rfl, g1⟩
      go_wp2_with fail
      go_ret2
      exact (H _ g1).out
    · rw [ha] at HC
      have hE : frameErr 1 ns = 0 := by unfold frameErr; simp only [if_true, if_neg h76, ha]
      have hx : xorOf ns < 256 := xorTo_lt hB ns.length
      have HF := fun v w' (ho : Own w.heap.size 5 .u8 w' v (frameRow 1 ns)) g => Lib.hid (bytesTells_is hE ho g)
      have e1 : frameRow 1 ns = [36] ++ ns ++ [42, digit (xorOf ns / 16), digit (xorOf ns % 16), 13, 10] := by unfold frameRow; simp
      rw [e1] at HF
      have HX := fun w' (g : Grew w w') => Lib.hid (sums_Xor _ ns w' (hR.grew g) hB hl)
      have HR := fun w' (g : Grew w w') => Lib.hid (hR.grew g)
      have I1 := fun w => Lib.hid (hex_at (xorOf ns / 16) (by omega) w)
      have I2 := fun w => Lib.hid (hex_at (xorOf ns % 16) (by omega) w)
      have l1 := digit_lt (xorOf ns / 16) (by omega)
      have l2 := digit_lt (xorOf ns % 16) (by omega)
      have d1 : ((xorOf ns / 16 : Nat) : Int) = (xorOf ns : Int) / 16 := by omega
      have d2 : ((xorOf ns % 16 : Nat) : Int) = (xorOf ns : Int) % 16 := by omega
      rw [d1] at I1
      rw [d2] at I2
      have ha15 : bits BinOp.and IntKind.u8 (xorOf ns : Int) 15 = (xorOf ns : Int) % 16 := and15 _ hx
      generalize digit (xorOf ns / 16) = y1 at *
      generalize digit (xorOf ns % 16) = y2 at *
      generalize xorOf ns = x at *
      clear hE e1 ha hR d1 d2
      go_enter Tryz.func78, Tryz.ntmps78
      go_wp2_with fail
      refine HC.out.mono ?_
      rintro e w1 ⟨rfl, g1⟩
      go_wp2_with fail
      refine (HX _ g1).out.mono ?_
      rintro e w2 ⟨rfl, g2⟩
      have G2 := g1.trans g2
      have hO0 := own_lit (B := w.heap.size) w2 5 #[.int .u8 36] [36] 1 G2.size rfl rfl (by simp [maxLen])
      have G1 := G2.alloc (.cells #[.int .u8 36] 5)
      have hR1 := (HR _ G1).out
      have HL := fun w' => Lib.hid (own_lit (B := 0) w' 5 #[.int .u8 42, .int .u8 y1, .int .u8 y2, .int .u8 13, .int .u8 10] [42, y1, y2, 13, 10] 5 (Nat.zero_le _) rfl rfl (by simp [maxLen])).row
      clear HX HR HC g1 g2
      go_wp2_with (refine wpList_joinN _ rfl _ _ 25 rfl w.heap.size 5 .u8 1 Tryz.underlying25 infoU8 (.slice (some ⟨w2.heap.size, 0, none⟩) 1 1) _ rfl hO0 _ ns rfl hR1 (by simp; omega) (by decide) (by have := G1.size; omega) ?_; intro v1 w1 hown hgrow hnil; have G3 := Grew.push G1 hO0 hgrow; have hfm := hown.form (by simp); obtain ⟨b1, c1, rfl, hb1, hb2⟩ := hfm; have i1 := fun w => (I1 w).out; have i2 := fun w => (I2 w).out)
      unfold hexText at i1 i2
      have hO1 := (hown.alloc (.cells #[.int .u8 42, .int .u8 y1, .int .u8 y2, .int .u8 13, .int .u8 10] 5)).drew
      have hL1 := Lib.hid ((own_lit (B := 0) w1 5 #[.int .u8 42, .int .u8 y1, .int .u8 y2, .int .u8 13, .int .u8 10] [42, y1, y2, 13, 10] 5 (Nat.zero_le _) rfl rfl (by simp [maxLen])).drew).row
      have G4 := (G3.alloc (.cells #[.int .u8 42, .int .u8 y1, .int .u8 y2, .int .u8 13, .int .u8 10] 5)).drew
      clear I1 I2 HL hown hgrow hnil hR1 hO0 G1 G2 hb1 hb2
      go_region_law (refine step_joinN _ rfl _ _ 25 rfl w.heap.size 5 .u8 1 Tryz.underlying25 infoU8 _ _ rfl hO1 _ [42, y1, y2, 13, 10] rfl hL1.out (by simp; omega) (by decide) G4.size ?_; intro v2 w2 hown2 hgrow2 hnil2)
      all_goals go_wp2_with fail
      all_goals go_ret2
      all_goals exact (HF _ _ hown2 (Grew.push G4 hO1 hgrow2)).out
end Go.Proofs.YtcdmbnbanopioaaGreatDoor

namespace Go.Proofs.YtcdmbnbanopioaaGreatDoor
open Go.RowKit
set_option linter.unusedVariables false

set_option maxRecDepth 100000 in
set_option maxHeartbeats 2000000 in
theorem prog_sirfBytes (v : Value) (ns : List Nat) (w : World) (hR : Row .u8 w v ns) (hB : Bytes ns) (hl : ns.length ≤ 5000) :
    Calls Tryz.prog 80 #[v] w (BytesTells 3 ns w) := by
  obtain ⟨A, c, rfl, hc⟩ := hR.form
  by_cases hlong : 1023 < ns.length
  · have H := fun w' (g : Grew w w') => Lib.hid (bytesTells_no (k := 3) (ns := ns) 3 (by unfold frameErr; simp [hlong]) (by omega) g)
    go_enter Tryz.func80, Tryz.ntmps80
    go_wp2_with fail
    go_ret2
    exact (H _ (Grew.refl w)).out
  · have hE : frameErr 3 ns = 0 := by unfold frameErr; simp [hlong]
    have hx : fifOf ns < 32768 := by unfold fifOf; omega
    have HF := fun v w' (ho : Own w.heap.size 5 .u8 w' v (frameRow 3 ns)) g => Lib.hid (bytesTells_is hE ho g)
    simp only [frameRow, show ¬ (3 : Nat) = 1 by omega, show ¬ (3 : Nat) = 2 by omega, if_false] at HF
    have HX := fun w' (g : Grew w w') => Lib.hid (sums_Fifteen _ ns w' (hR.grew g) hB (by omega))
    have HR := Lib.hid hR
    generalize fifOf ns = x at *
    clear hB hR hE
    go_enter Tryz.func80, Tryz.ntmps80
    go_wp2_with fail
    refine (HX _ (Grew.refl w)).out.mono ?_
    rintro e W ⟨rfl, G⟩
    have hs0 : w.heap.size ≤ W.heap.size := G.size
    have hO0 := own_lit (B := w.heap.size) W 5 #[.int .u8 160, .int .u8 162, .int .u8 ((ns.length : Int) / 256), .int .u8 ((ns.length : Int) % 256)] [160, 162, ns.length / 256, ns.length % 256] 4 hs0 (by simp [cellsOf]) rfl (by simp [maxLen])
    have G1 := G.alloc (.cells #[.int .u8 160, .int .u8 162, .int .u8 ((ns.length : Int) / 256), .int .u8 ((ns.length : Int) % 256)] 5)
    have hR1 := HR.out.grew G1
    clear HR HX
    have HL := fun w' => Lib.hid (own_lit (B := 0) w' 5 #[.int .u8 ((x : Int) / 256), .int .u8 ((x : Int) % 256), .int .u8 176, .int .u8 179] [x / 256, x % 256, 176, 179] 4 (Nat.zero_le _) (by simp [cellsOf]) rfl (by simp [maxLen])).row
    go_wp2_with (first | (refine wpList_joinN _ rfl _ _ 25 rfl w.heap.size 5 .u8 1 Tryz.underlying25 infoU8 (.slice (some ⟨W.heap.size, 0, none⟩) 4 4) _ rfl hO0 _ ns rfl hR1 (by simp; omega) (by decide) (by have := G1.size; omega) ?_; intro v1 w1 hown hgrow hnil; have G2 := Grew.push G1 hO0 hgrow) | (refine wpList_joinN _ rfl _ _ 25 rfl w.heap.size 5 .u8 1 Tryz.underlying25 infoU8 v1 _ rfl (hown.alloc _) _ [x / 256, x % 256, 176, 179] rfl (HL w1).out (by simp; omega) (by decide) (by have := (G2.alloc (.cells #[] 5)).size; simp at this ⊢; omega) ?_; intro v2 w2 hown2 hgrow2 hnil2))
    go_ret2
    exact (HF _ _ (by rw [← List.append_assoc]; exact hown2) (Grew.push (G2.alloc _) (hown.alloc _) hgrow2)).out

set_option maxRecDepth 100000 in
set_option maxHeartbeats 2000000 in
theorem prog_ubxBytes (v : Value) (ns : List Nat) (w : World) (hR : Row .u8 w v ns) (hB : Bytes ns) (hl : ns.length ≤ 5000) :
    Calls Tryz.prog 79 #[v] w (BytesTells 2 ns w) := by
  obtain ⟨A, c, rfl, hc⟩ := hR.form
  by_cases hshort : ns.length < 2
  · have H := fun w' (g : Grew w w') => Lib.hid (bytesTells_no (k := 2) (ns := ns) 4 (by unfold frameErr; simp [hshort]) (by omega) g)
    have e1 : IntKind.i64.wrap ((ns.length : Int) - 2) = (ns.length : Int) - 2 := IntWalk.i64_in _ (by omega)
    have c1 : (ns.length : Int) - 2 < 0 := by omega
    go_enter Tryz.func79, Tryz.ntmps79
    go_wp2_with fail
    go_ret2
    exact (H _ (Grew.refl w)).out
  · by_cases hlong : 514 < ns.length
    · have H := fun w' (g : Grew w w') => Lib.hid (bytesTells_no (k := 2) (ns := ns) 3 (by unfold frameErr; simp [hshort, hlong]) (by omega) g)
      have e1 : IntKind.i64.wrap ((ns.length : Int) - 2) = (ns.length : Int) - 2 := IntWalk.i64_in _ (by omega)
      have c1 : ¬ (ns.length : Int) - 2 < 0 := by omega
      have c2 : (512 : Int) < (ns.length : Int) - 2 := by omega
      go_enter Tryz.func79, Tryz.ntmps79
      go_wp2_with fail
      go_ret2
      exact (H _ (Grew.refl w)).out
    · have hE : frameErr 2 ns = 0 := by unfold frameErr; simp [hshort, hlong]
      have HF := fun v w' (ho : Own w.heap.size 5 .u8 w' v (frameRow 2 ns)) g => Lib.hid (bytesTells_is hE ho g)
      have hub : ubxRow ns = [wd ns 0, wd ns 1, (ns.length - 2) % 256, (ns.length - 2) / 256] ++ ns.drop 2 := rfl
      have e2 : frameRow 2 ns = [181, 98, wd ns 0, wd ns 1, (ns.length - 2) % 256, (ns.length - 2) / 256] ++ ns.drop 2 ++ [fletA (ubxRow ns), fletB (ubxRow ns)] := by unfold frameRow; rw [hub]; simp
      have e3 : ([181, 98, wd ns 0, wd ns 1, (ns.length - 2) % 256, (ns.length - 2) / 256] ++ ns.drop 2).drop 2 = ubxRow ns := by rw [hub]; rfl
      rw [e2] at HF
      have hbu : Bytes (ubxRow ns) := by
        rw [hub]
        refine Bytes.of_mem (fun x hx => ?_)
        simp only [List.mem_append, List.mem_cons, List.not_mem_nil, or_false] at hx
        rcases hx with (rfl | rfl | rfl | rfl) | h
        · exact hB 0
        · exact hB 1
        · omega
        · omega
        · obtain ⟨i, hi, rfl⟩ := List.getElem_of_mem (List.mem_of_mem_drop h)
          have := hB i
          rwa [wd_lt hi] at this
      have hul : (ubxRow ns).length = ns.length + 2 := by rw [hub]; simp; omega
      have hfa : fletA (ubxRow ns) < 256 := by unfold fletA; omega
      have hfb := fletB_lt (ubxRow ns)
      have HX := fun v w' (h : Row .u8 w' v (ubxRow ns)) => Lib.hid (sums_Fletcher v (ubxRow ns) w' h hbu (by omega))
      have hR' := hR
      obtain ⟨Ax, cx, e0, hcx, hr⟩ := hR'
      simp only [Value.slice.injEq] at e0
      obtain ⟨rfl, -, rfl⟩ := e0
      obtain ⟨rb, ro, rfl, hrb, hcell⟩ := hr (by omega)
      have y0 := hcell 0 (by omega)
      have y1 := hcell 1 (by omega)
      rw [Nat.add_zero] at y0
      have hcut := hR.cut 2 (by omega)
      have h0 := hB 0
      have h1 := hB 1
      have hn2 : (2 : Int) ≤ ns.length := by omega
      have hn0 : (0 : Int) < ns.length := by omega
      have hn1 : (1 : Int) < ns.length := by omega
      have p0 : 0 < ns.length := by omega
      have p1 : 1 < ns.length := by omega
      have p2 : 2 ≤ ns.length := by omega
      have p3 : 2 ≤ c := by omega
      have e1 : IntKind.i64.wrap ((ns.length : Int) - 2) = ((ns.length - 2 : Nat) : Int) := by rw [IntWalk.i64_in _ (by omega)]; omega
      have c1 : ¬ ((ns.length - 2 : Nat) : Int) < 0 := by omega
      have c2 : ¬ (512 : Int) < ((ns.length - 2 : Nat) : Int) := by omega
      have e5 : IntKind.u8.wrap ((ns.length - 2 : Nat) : Int) = (((ns.length - 2) % 256 : Nat) : Int) := by rw [wrap_u8]; omega
      have e4 : ((ns.length - 2 : Nat) : Int) / 256 = (((ns.length - 2) / 256 : Nat) : Int) := by omega
      have b1 : (ns.length - 2) % 256 < 256 := by omega
      have b2 : (ns.length - 2) / 256 < 256 := by omega
      have hmm : ns.length - 2 ≤ 512 := by omega
      have HCUT := fun w' (g : Grew w w') => Lib.hid (hcut.grew g)
      have HLD : Hid ((ns.drop 2).length ≤ 512) := by show _ ≤ _; rw [List.length_drop]; omega
      have HY : ∀ w', Grew w w' → Hid (w'.cell? ⟨rb, ro, none⟩ = some (.int .u8 (wd ns 0 : Nat)) ∧ w'.cell? ⟨rb, ro + 1, none⟩ = some (.int .u8 (wd ns 1 : Nat))) := fun w' g => Lib.hid ⟨(g.cell (p := ⟨rb, ro, none⟩) hrb).trans y0, (g.cell (p := ⟨rb, ro + 1, none⟩) hrb).trans y1⟩
      clear hub hcut y0 y1 hcell hr hR hE e2 hbu hB hrb hcx hul
      have E3 := Lib.hid e3
      clear e3
      generalize ubxRow ns = u at *
      generalize fletA u = fa at *
      generalize fletB u = fb at *
      generalize wd ns 0 = x0 at *
      generalize wd ns 1 = x1 at *
      generalize (ns.length - 2) % 256 = m1 at *
      generalize (ns.length - 2) / 256 = m2 at *
      have HN : Hid (ns.length - 2 = ns.length - 2) := rfl
      generalize hNM : ns.length - 2 = nm at *
      have e6 : IntKind.u8.wrap (m2 : Int) = m2 := IntWalk.u8_in _ (by omega)
      have HO := fun B w' hB => Lib.hid ((own_lit (B := B) w' 5 #[.int .u8 181, .int .u8 98, .int .u8 x0, .int .u8 x1, .int .u8 m1, .int .u8 m2] [181, 98, x0, x1, m1, m2] 6 hB rfl rfl (by simp [maxLen])).drew)
      rcases Decidable.em (c = 2) with hc2 | hc2
      · subst hc2
        simp only [if_true, Nat.sub_self] at HCUT
        go_enter Tryz.func79, Tryz.ntmps79
        go_wp2_with fail
        have KS : ∀ w', Grew w w' → Hid (w'.cell? ⟨rb, ro, none⟩ = some (.int .u8 x0) ∧ w'.cell? ⟨rb, ro + 1, none⟩ = some (.int .u8 x1)) := HY
        have HO1 := HO w.heap.size w (Nat.le_refl _)
        have GW := ((Grew.refl w).alloc (.cells #[.int .u8 181, .int .u8 98, .int .u8 x0, .int .u8 x1, .int .u8 m1, .int .u8 m2] 5)).drew
        have HC := HCUT _ GW
        clear HY HO HCUT
        go_region_held3 (fun w' => w'.cell? ⟨rb, ro, none⟩ = some (.int .u8 x0) ∧ w'.cell? ⟨rb, ro + 1, none⟩ = some (.int .u8 x1)) (first | exact (KS _ D).out | exact (KS _ GW).out | exact (KS _ (Grew.refl w).drew).out) (first | (refine step_joinN _ rfl _ _ 25 rfl w.heap.size 5 .u8 1 Tryz.underlying25 infoU8 (.slice (some ⟨w.heap.size, 0, none⟩) 6 6) _ rfl HO1.out _ (ns.drop 2) rfl HC.out (by have := HLD.out; simp only [List.length_cons, List.length_nil]; omega) (by decide) GW.size ?_; intro v1 w1 hown hgrow hnil; have D := Grew.push GW HO1.out hgrow))
        obtain ⟨g1, c1, rfl, hg1, hl1, hm1⟩ := hown.head (hnil (by simp))
        obtain ⟨M, hM⟩ : ∃ M, ([181, 98, x0, x1, m1, m2] ++ ns.drop 2).length = M := ⟨_, rfl⟩
        have hM6 : 6 ≤ M ∧ M ≤ 518 := by have := HLD.out; rw [List.length_append] at hM; simp only [List.length_cons, List.length_nil] at hM; omega
        have hcut := hown.row
        rw [hM] at hcut hm1 hown
        have hcut := hcut.cut 2 (by rw [hM]; omega)
        rw [E3.out, if_neg (by omega : ¬ c1 = 2), Nat.zero_add] at hcut
        rw [hM]
        have HX1 := HX _ _ hcut
        have HL2 := fun w' => Lib.hid (own_lit (B := 0) w' 5 #[.int .u8 fa, .int .u8 fb] [fa, fb] 2 (Nat.zero_le _) rfl rfl (by simp [maxLen])).row
        have q1 : 2 ≤ M := by omega
        have q2 : 2 ≤ c1 := by omega
        have q3 : ¬ c1 = 2 := by omega
        have q4 : (2 : Int) ≤ M := by omega
        have HM := Lib.hid hM
        have HM6 := Lib.hid hM6
        have HOW := Lib.hid hown
        have HD := Lib.hid D
        clear KS HO1 GW HC HX hgrow hnil hcut hown D e1 e4 e5 e6 b1 b2 p0 p1 p2 p3 hn0 hn1 hn2 h0 h1 hM hM6 hmm hNM HN E3
        go_wp2_with fail
        refine HX1.out.mono ?_
        rintro e w2 ⟨rfl, gg2⟩
        have G2 := HD.out.trans gg2
        have hown := HOW.out.grew gg2
        go_wp2_with (refine wpList_joinN _ rfl _ _ 25 rfl w.heap.size 5 .u8 1 Tryz.underlying25 infoU8 (.slice (some ⟨g1, 0, none⟩) M c1) _ rfl (hown.alloc _) _ [fa, fb] rfl (HL2 w2).out (by have := HM.out; have := HM6.out; simp only [List.length_cons, List.length_nil]; omega) (by decide) (by have := (G2.alloc (.cells #[] 5)).size; simp at this ⊢; omega) ?_; intro v3 w3 hown2 hgrow2 hnil2)
        go_ret2
        exact (HF _ _ hown2 (Grew.push (G2.alloc _) (hown.alloc _) hgrow2)).out
      · simp only [if_neg hc2] at HCUT
        go_enter Tryz.func79, Tryz.ntmps79
        go_wp2_with fail
        have KS : ∀ w', Grew w w' → Hid (w'.cell? ⟨rb, ro, none⟩ = some (.int .u8 x0) ∧ w'.cell? ⟨rb, ro + 1, none⟩ = some (.int .u8 x1)) := HY
        have HO1 := HO w.heap.size w (Nat.le_refl _)
        have GW := ((Grew.refl w).alloc (.cells #[.int .u8 181, .int .u8 98, .int .u8 x0, .int .u8 x1, .int .u8 m1, .int .u8 m2] 5)).drew
        have HC := HCUT _ GW
        clear HY HO HCUT
        go_region_held3 (fun w' => w'.cell? ⟨rb, ro, none⟩ = some (.int .u8 x0) ∧ w'.cell? ⟨rb, ro + 1, none⟩ = some (.int .u8 x1)) (first | exact (KS _ D).out | exact (KS _ GW).out | exact (KS _ (Grew.refl w).drew).out) (first | (refine step_joinN _ rfl _ _ 25 rfl w.heap.size 5 .u8 1 Tryz.underlying25 infoU8 (.slice (some ⟨w.heap.size, 0, none⟩) 6 6) _ rfl HO1.out _ (ns.drop 2) rfl HC.out (by have := HLD.out; simp only [List.length_cons, List.length_nil]; omega) (by decide) GW.size ?_; intro v1 w1 hown hgrow hnil; have D := Grew.push GW HO1.out hgrow))
        obtain ⟨g1, c1, rfl, hg1, hl1, hm1⟩ := hown.head (hnil (by simp))
        obtain ⟨M, hM⟩ : ∃ M, ([181, 98, x0, x1, m1, m2] ++ ns.drop 2).length = M := ⟨_, rfl⟩
        have hM6 : 6 ≤ M ∧ M ≤ 518 := by have := HLD.out; rw [List.length_append] at hM; simp only [List.length_cons, List.length_nil] at hM; omega
        have hcut := hown.row
        rw [hM] at hcut hm1 hown
        have hcut := hcut.cut 2 (by rw [hM]; omega)
        rw [E3.out, if_neg (by omega : ¬ c1 = 2), Nat.zero_add] at hcut
        rw [hM]
        have HX1 := HX _ _ hcut
        have HL2 := fun w' => Lib.hid (own_lit (B := 0) w' 5 #[.int .u8 fa, .int .u8 fb] [fa, fb] 2 (Nat.zero_le _) rfl rfl (by simp [maxLen])).row
        have q1 : 2 ≤ M := by omega
        have q2 : 2 ≤ c1 := by omega
        have q3 : ¬ c1 = 2 := by omega
        have q4 : (2 : Int) ≤ M := by omega
        have HM := Lib.hid hM
        have HM6 := Lib.hid hM6
        have HOW := Lib.hid hown
        have HD := Lib.hid D
        clear KS HO1 GW HC HX hgrow hnil hcut hown D e1 e4 e5 e6 b1 b2 p0 p1 p2 p3 hn0 hn1 hn2 h0 h1 hM hM6 hmm hNM HN E3
        go_wp2_with fail
        refine HX1.out.mono ?_
        rintro e w2 ⟨rfl, gg2⟩
        have G2 := HD.out.trans gg2
        have hown := HOW.out.grew gg2
        go_wp2_with (refine wpList_joinN _ rfl _ _ 25 rfl w.heap.size 5 .u8 1 Tryz.underlying25 infoU8 (.slice (some ⟨g1, 0, none⟩) M c1) _ rfl (hown.alloc _) _ [fa, fb] rfl (HL2 w2).out (by have := HM.out; have := HM6.out; simp only [List.length_cons, List.length_nil]; omega) (by decide) (by have := (G2.alloc (.cells #[] 5)).size; simp at this ⊢; omega) ?_; intro v3 w3 hown2 hgrow2 hnil2)
        go_ret2
        exact (HF _ _ hown2 (Grew.push (G2.alloc _) (hown.alloc _) hgrow2)).out

theorem prog_Bytes (k : Nat) (fv : Value) (ns : List Nat) (w : World) (hR : Row .u8 w fv ns) (hB : Bytes ns) (hl : ns.length ≤ 5000) (hk : k < 256) :
    Calls Tryz.prog 62 #[.agg #[.int .u8 (k : Nat), fv]] w (BytesTells k ns w) := by
  obtain ⟨A, c, rfl, hc⟩ := hR.form
  have G1 := fun (x : Nat) => (Grew.refl w).alloc (.cells #[.int .u8 x, .slice A ns.length c] 49)
  have up : ∀ {x : Nat} {e : Ending} {w1 w2 : World}, Grew w w1 → BytesTells x ns w1 e w2 → BytesTells x ns w e w2 := fun g ⟨v, h1, h2, h3⟩ => ⟨v, h1, own_base h2 g.size, g.trans h3⟩
  by_cases h1 : k = 1
  · subst h1
    have H := Lib.hid (prog_nmeaBytes _ ns _ (hR.grew (G1 1)) hB hl)
    clear hR
    go_enter Tryz.func62, Tryz.ntmps62
    go_wp2_with fail
    refine H.out.mono ?_
    rintro e w1 h
    have h := up (G1 1) h
    obtain ⟨v, rfl, ho, g⟩ := h
    go_wp2_with fail
    go_ret2
    exact ⟨v, rfl, ho, g⟩
  · by_cases h2 : k = 2
    · subst h2
      have H := Lib.hid (prog_ubxBytes _ ns _ (hR.grew (G1 2)) hB hl)
      clear hR h1
      go_enter Tryz.func62, Tryz.ntmps62
      go_wp2_with fail
      refine H.out.mono ?_
      rintro e w1 h
      have h := up (G1 2) h
      obtain ⟨v, rfl, ho, g⟩ := h
      go_wp2_with fail
      go_ret2
      exact ⟨v, rfl, ho, g⟩
    · by_cases h3 : k = 3
      · subst h3
        have H := Lib.hid (prog_sirfBytes _ ns _ (hR.grew (G1 3)) hB hl)
        clear hR h1 h2
        go_enter Tryz.func62, Tryz.ntmps62
        go_wp2_with fail
        refine H.out.mono ?_
        rintro e w1 h
        have h := up (G1 3) h
        obtain ⟨v, rfl, ho, g⟩ := h
        go_wp2_with fail
        go_ret2
        exact ⟨v, rfl, ho, g⟩
      · have he : frameErr k ns = 2 := by unfold frameErr; rw [if_neg h1, if_neg h2, if_neg h3]
        have H := fun w' (g : Grew w w') => Lib.hid (bytesTells_no 2 he (by omega) g)
        have k1 : ¬ (k : Int) = 1 := by omega
        have k2 : ¬ (k : Int) = 2 := by omega
        have k3 : ¬ (k : Int) = 3 := by omega
        clear he h1 h2 h3 hR
        go_enter Tryz.func62, Tryz.ntmps62
        go_wp2_with fail
        go_ret2
        exact (H _ ((Grew.refl w).alloc _)).out
end Go.Proofs.YtcdmbnbanopioaaGreatDoor

namespace Go.Proofs.YtcdmbnbanopioaaGreatDoor
open Go.RowKit
set_option linter.unusedVariables false

theorem sent_some {s : ByteArray} (h : s.size ≠ 0) : sentErr s = frameErr 1 (nat s) ∧ sentRow s = frameBytes 1 (nat s) := by
  unfold sentErr sentRow
  rw [if_neg h, if_neg h]
  exact ⟨rfl, rfl⟩
theorem size_zero {s : ByteArray} (h : s.size = 0) : s = ⟨#[]⟩ := nat_ext (by rw [nat_nil]; exact List.eq_nil_of_length_eq_zero (by rw [nat_length]; exact h))

set_option maxRecDepth 100000 in
theorem prog_Sentence (s : ByteArray) (w : World) (hs : s.size ≤ 1000) : Calls Tryz.prog 44 #[.string s] w (SaidT (sentErr s) (sentRow s) w) := by
  by_cases h0 : s.size = 0
  · obtain rfl := size_zero h0
    go_enter Tryz.func44, Tryz.ntmps44
    go_wp2_with fail
    go_ret2
    exact saidT_none _ (Grew.refl w)
  · obtain ⟨e1, e2⟩ := sent_some h0
    rw [e1, e2]
    have HB := Lib.hid (prog_Bytes 1 (.slice (some ⟨w.heap.size, 0, none⟩) s.size (grownCap w s.size 0 5)) (nat s) (Lib.bytesWorld w 5 s) (bytes_row w _ s) (nat_bytes s) (by rw [nat_length]; omega) (by decide))
    rw [show ((1 : Nat) : Int) = 1 from rfl] at HB
    have he := no_empty h0
    have hc := Lib.run_convert_string_bytes (P := Tryz.prog) w 9 25 5 s Tryz.underlying9 Tryz.underlying25 Tryz.underlying5
    have hb := Lib.hid (bytes_grew w 5 s)
    go_enter Tryz.func44, Tryz.ntmps44
    go_wp2_with fail
    refine HB.out.mono ?_
    rintro e w1 ⟨v, rfl, hO, g1⟩
    replace hO := Lib.hid hO
    go_wp2_with fail
    go_ret2
    exact ⟨v, rfl, hO.out.row, hb.out.trans g1⟩

/-- What a command tells: the error, or its body's sentence. -/
def CmdT (er : Nat) (s : ByteArray) (w : World) : Ending → World → Prop := SaidT (if er = 0 then sentErr s else er) (if er = 0 then sentRow s else []) w
theorem cmdT_no {er : Nat} {s : ByteArray} {w w' : World} (h : er ≠ 0) (g : Grew w w') : CmdT er s w (.returned (.tuple #[.slice none 0 0, .int .i64 (er : Nat)])) w' := by
  unfold CmdT
  rw [if_neg h, if_neg h]
  exact saidT_none _ g
theorem cmdT_ok {s : ByteArray} {w : World} : CmdT 0 s w = SaidT (sentErr s) (sentRow s) w := rfl
theorem cmd_none {k : Nat} {every : Int} (h : k = 0 ∨ 7 < k) : cmdErr k every = 7 := by unfold cmdErr; rw [if_pos h]
theorem cmd_arg {k : Nat} {every : Int} (hk : 1 ≤ k ∧ k ≤ 7) (h : every < 0 ∨ 10 < every) : cmdErr k every = 2 := by unfold cmdErr; rw [if_neg (by omega), if_pos h]
theorem cmd_ok {k : Nat} {every : Int} (hk : 1 ≤ k ∧ k ≤ 7) (h : 0 ≤ every ∧ every ≤ 10) : cmdErr k every = 0 := by unfold cmdErr; rw [if_neg (by omega), if_neg (by omega)]
/-- A row of one number that a call lays. -/
theorem row_one (W : World) (n : Nat) (E : TypeId) (fr : Nat × Nat) (b : Nat) (hb : b = W.heap.size) : Row .i64 (W.alloc (.cells #[.int .i64 (n : Nat)] E fr)) (.slice (some ⟨b, 0, none⟩) 1 1) [n] := by
  subst hb
  have := row_lit_i64 W E fr [n]
  simpa using this

set_option maxHeartbeats 1000000 in
theorem prog_Rate (k : Nat) (every : Int) (w : World) (hk : k < 256) (hv : -9223372036854775808 ≤ every ∧ every ≤ 9223372036854775807) (ht : Tabs w) :
    Calls Tryz.prog 21 #[.int .u8 (k : Nat), .int .i64 every] w (CmdT (cmdErr k every) (rateB (kindText k) every.toNat) w) := by
  by_cases h7 : k = 0 ∨ 7 < k
  · rw [cmd_none h7]
    have HA := fun w ht => Lib.hid (asked_none k every w hk h7 hv ht)
    go_enter Tryz.func21, Tryz.ntmps21
    go_wp2_with (go_at_call 43; refine (HA _ ht).out.mono ?_; rintro e w1 ⟨rfl, g1⟩)
    go_ret2
    exact cmdT_no (by decide) (g1.alloc _)
  have hk : 1 ≤ k ∧ k ≤ 7 := by omega
  by_cases he : every < 0 ∨ 10 < every
  · rw [cmd_arg hk he]
    have HA := fun w ht => Lib.hid (asked_arg k every w hk he hv ht)
    go_enter Tryz.func21, Tryz.ntmps21
    go_wp2_with (go_at_call 43; refine (HA _ ht).out.mono ?_; rintro e w1 ⟨rfl, g1⟩)
    go_ret2
    exact cmdT_no (by decide) (g1.alloc _)
  have he : 0 ≤ every ∧ every ≤ 10 := by omega
  rw [cmd_ok hk he, cmdT_ok]
  obtain ⟨n, rfl⟩ : ∃ n : Nat, every = n := ⟨every.toNat, by omega⟩
  rw [Int.toNat_natCast]
  have HA := fun w ht => Lib.hid (asked_ok k (n : Nat) w hk he ht)
  have hL := kindText_size k
  have HS := fun w => Lib.hid (prog_Sentence (rateB (kindText k) n) w (by rw [rateB_size]; have := every_size n; omega))
  have HD := fun V v (hr : Row .i64 V v [n]) ht => Lib.hid (nmo_digits 1 v [n] V hr (by decide) (by simp) (wd_one n (by omega)) ht)
  simp only [show [n].length = 1 from rfl, padTo_one, every_pad n (by omega)] at HD
  have hE := every_size n
  go_enter Tryz.func21, Tryz.ntmps21
  go_upto_region 2 with (go_at_call 43; refine (HA _ ht).out.mono ?_; rintro e w1 ⟨rfl, g1⟩)
  obtain ⟨W, hW, g2, hl, ⟨c0, c1⟩, f0, f1⟩ := two_new w1 (.string (kindText k)) (.int .i64 (kindNum k : Nat)) 78
  rw [hW]
  clear hW
  have G := g1.trans g2
  have HT := Lib.hid (ht.grew G)
  have hB := Lib.hid (show rateB (kindText k) n = (⟨#[80, 85, 66, 88, 44, 52, 48, 44]⟩ : ByteArray) ++ kindText k ++ ⟨#[44, 48, 44]⟩ ++ everyB n ++ ⟨#[44, 48, 44, 48, 44, 48, 44, 48]⟩ from rfl)
  have z1 : (⟨#[80, 85, 66, 88, 44, 52, 48, 44]⟩ : ByteArray).size = 8 := rfl
  have z2 : (⟨#[44, 48, 44]⟩ : ByteArray).size = 3 := rfl
  have z3 : (⟨#[44, 48, 44, 48, 44, 48, 44, 48]⟩ : ByteArray).size = 8 := rfl
  rw [hB.out] at HS
  generalize everyB n = E at *
  generalize kindText k = L at *
  have k1 : ¬ 9223372036854775807 < (⟨#[80, 85, 66, 88, 44, 52, 48, 44]⟩ : ByteArray).size + L.size := by omega
  have k2 : ¬ 9223372036854775807 < ((⟨#[80, 85, 66, 88, 44, 52, 48, 44]⟩ : ByteArray) ++ L).size + (⟨#[44, 48, 44]⟩ : ByteArray).size := by simp only [ByteArray.size_append]; omega
  have k3 : ¬ 9223372036854775807 < ((⟨#[80, 85, 66, 88, 44, 52, 48, 44]⟩ : ByteArray) ++ L ++ ⟨#[44, 48, 44]⟩).size + E.size := by simp only [ByteArray.size_append]; omega
  have k4 : ¬ 9223372036854775807 < ((⟨#[80, 85, 66, 88, 44, 52, 48, 44]⟩ : ByteArray) ++ L ++ ⟨#[44, 48, 44]⟩ ++ E).size + (⟨#[44, 48, 44, 48, 44, 48, 44, 48]⟩ : ByteArray).size := by simp only [ByteArray.size_append]; omega
  have j1 : ¬ 9223372036854775807 < 8 + L.size := by omega
  have j2 : ¬ 9223372036854775807 < 8 + L.size + 3 := by omega
  have j3 : ¬ 9223372036854775807 < 8 + L.size + 3 + E.size := by omega
  have j4 : ¬ 9223372036854775807 < 8 + L.size + 3 + E.size + 8 := by omega
  have KS : ∀ w', Grew W w' → w'.cell? ⟨w1.heap.size, 0, none⟩ = some (.string L) := fun w' g => (g.cell hl).trans c0
  have GW := Grew.refl W
  clear z1 z2 z3
  go_upto_region 4 with fail
  go_region_held3 (fun w' => w'.cell? ⟨w1.heap.size, 0, none⟩ = some (.string L)) (first | exact KS _ GW | exact KS _ (GW.alloc _).drew | exact KS _ (GW.drew) | exact KS _ (GW.alloc _)) (first | (go_at_call 45; refine (HD _ _ (by first | exact (row_one _ _ _ _ _ rfl).grew (Grew.refl _).drew | exact row_one _ _ _ _ _ rfl) (HT.out.grew (by first | exact (GW.alloc _).drew | exact GW.alloc _))).out.mono ?_; rintro e w3 ⟨rfl, g3⟩; replace GW := (GW.alloc _).drew.trans g3; clear g3) | (go_at_call 44; refine (HS _).out.mono ?_; rintro e w4 ⟨v, rfl, hrow, g4⟩; replace GW := GW.trans g4))
  go_wp2_with fail
  go_ret2
  rw [hB.out]
  exact ⟨v, rfl, hrow, G.trans GW⟩

set_option maxHeartbeats 1000000 in
theorem prog_Ask (k : Nat) (every : Int) (w : World) (hk : k < 256) (hv : -9223372036854775808 ≤ every ∧ every ≤ 9223372036854775807) (ht : Tabs w) :
    Calls Tryz.prog 22 #[.int .u8 (k : Nat), .int .i64 every] w (CmdT (cmdErr k every) (askB (kindNum k) every.toNat) w) := by
  by_cases h7 : k = 0 ∨ 7 < k
  · rw [cmd_none h7]
    have HA := fun w ht => Lib.hid (asked_none k every w hk h7 hv ht)
    go_enter Tryz.func22, Tryz.ntmps22
    go_wp2_with (go_at_call 43; refine (HA _ ht).out.mono ?_; rintro e w1 ⟨rfl, g1⟩)
    go_ret2
    exact cmdT_no (by decide) (g1.alloc _)
  have hk : 1 ≤ k ∧ k ≤ 7 := by omega
  by_cases he : every < 0 ∨ 10 < every
  · rw [cmd_arg hk he]
    have HA := fun w ht => Lib.hid (asked_arg k every w hk he hv ht)
    go_enter Tryz.func22, Tryz.ntmps22
    go_wp2_with (go_at_call 43; refine (HA _ ht).out.mono ?_; rintro e w1 ⟨rfl, g1⟩)
    go_ret2
    exact cmdT_no (by decide) (g1.alloc _)
  have he : 0 ≤ every ∧ every ≤ 10 := by omega
  rw [cmd_ok hk he, cmdT_ok]
  obtain ⟨n, rfl⟩ : ∃ n : Nat, every = n := ⟨every.toNat, by omega⟩
  rw [Int.toNat_natCast]
  have HA := fun w ht => Lib.hid (asked_ok k (n : Nat) w hk he ht)
  have hm := kindNum_lt k
  generalize kindText k = L at *
  generalize kindNum k = m at *
  have HS := fun w => Lib.hid (prog_Sentence (askB m n) w (by rw [askB_size]; decide))
  have HD := fun (x : Nat) (hx : x < 100) V v (hr : Row .i64 V v [x]) ht => Lib.hid (nmo_digits 2 v [x] V hr (by decide) (by simp) (wd_one x (by omega)) ht)
  simp only [show ∀ x : Nat, [x].length = 1 from fun _ => rfl, padTo_one] at HD
  have HDm := HD m (by omega)
  have HDn := HD n (by omega)
  rw [padB_eq 2 m (by decide) (by omega)] at HDm
  rw [padB_eq 2 n (by decide) (by omega)] at HDn
  clear HD
  go_enter Tryz.func22, Tryz.ntmps22
  go_upto_region 2 with (go_at_call 43; refine (HA _ ht).out.mono ?_; rintro e w1 ⟨rfl, g1⟩)
  obtain ⟨W, hW, g2, hl, ⟨c0, c1⟩, f0, f1⟩ := two_new w1 (.string L) (.int .i64 (m : Nat)) 78
  rw [hW]
  clear hW
  have G := g1.trans g2
  have HT := Lib.hid (ht.grew G)
  have hB := Lib.hid (show askB m n = (⟨#[80, 83, 82, 70, 49, 48, 51, 44]⟩ : ByteArray) ++ digB 2 m ++ ⟨#[44, 48, 44]⟩ ++ digB 2 n ++ ⟨#[44, 49]⟩ from rfl)
  have z1 := digB_size 2 m
  have z2 := digB_size 2 n
  rw [hB.out] at HS
  generalize digB 2 m = E at *
  generalize digB 2 n = D at *
  have j1 : ¬ 9223372036854775807 < 8 + E.size := by omega
  have j2 : ¬ 9223372036854775807 < 8 + E.size + 3 := by omega
  have j3 : ¬ 9223372036854775807 < 8 + E.size + 3 + D.size := by omega
  have j4 : ¬ 9223372036854775807 < 8 + E.size + 3 + D.size + 2 := by omega
  have GW := Grew.refl W
  clear z1 z2
  go_wp2_with fail
  refine (HDm _ _ (by first | exact (row_one _ _ _ _ _ rfl).grew (Grew.refl _).drew | exact row_one _ _ _ _ _ rfl) (HT.out.grew (by first | exact (GW.alloc _).drew | exact GW.alloc _))).out.mono ?_
  rintro e w3 ⟨rfl, g3⟩
  replace GW := (GW.alloc _).trans g3
  clear g3
  go_wp2_with fail
  refine (HDn _ _ (by first | exact (row_one _ _ _ _ _ rfl).grew (Grew.refl _).drew | exact row_one _ _ _ _ _ rfl) (HT.out.grew (by first | exact (GW.alloc _).drew | exact GW.alloc _))).out.mono ?_
  rintro e w4 ⟨rfl, g4⟩
  replace GW := (GW.alloc _).trans g4
  clear g4
  go_wp2_with fail
  refine (HS _).out.mono ?_
  rintro e w5 ⟨v, rfl, hrow, g5⟩
  replace GW := GW.trans g5
  go_wp2_with fail
  go_ret2
  rw [hB.out]
  exact ⟨v, rfl, hrow, G.trans GW⟩
end Go.Proofs.YtcdmbnbanopioaaGreatDoor

namespace Go.Proofs.YtcdmbnbanopioaaGreatDoor
open Go.RowKit
set_option linter.unusedVariables false

set_option maxRecDepth 100000 in
theorem ref11_Sentence (s : ByteArray) (w : World) (hs : s.size ≤ 1000) : Calls Tryz.prog 27 #[.string s] w (SaidT (sentErr s) (sentRow s) w) := by
  by_cases h0 : s.size = 0
  · obtain rfl := size_zero h0
    go_enter Tryz.func27, Tryz.ntmps27
    go_wp2_with fail
    go_ret2
    exact saidT_none _ (Grew.refl w)
  · obtain ⟨e1, e2⟩ := sent_some h0
    rw [e1, e2]
    have HB := Lib.hid (ref08_Bytes1 (.slice (some ⟨w.heap.size, 0, none⟩) s.size (grownCap w s.size 0 5)) (nat s) (Lib.bytesWorld w 5 s) (bytes_row w _ s) (nat_bytes s) (by rw [nat_length]; omega))
    have he : ¬ (s.size : Int) = 0 := by omega
    have hc := Lib.run_convert_string_bytes (P := Tryz.prog) w 9 25 5 s Tryz.underlying9 Tryz.underlying25 Tryz.underlying5
    have hb := Lib.hid (bytes_grew w 5 s)
    go_enter Tryz.func27, Tryz.ntmps27
    go_wp2_with fail
    refine HB.out.mono ?_
    rintro e w1 ⟨v, rfl, hO, g1⟩
    replace hO := Lib.hid hO
    go_wp2_with fail
    go_ret2
    exact ⟨v, rfl, hO.out.row, hb.out.trans g1⟩

theorem ref11_Letters (k : Nat) (w : World) (hk : k < 256) : Calls Tryz.prog 28 #[.int .u8 (k : Nat)] w fun e w' => e = .returned (.string (kindText k)) ∧ w = w' := by
  have h : k = 1 ∨ k = 2 ∨ k = 3 ∨ k = 4 ∨ k = 5 ∨ k = 6 ∨ k = 7 ∨ (k = 0 ∨ 7 < k) := by omega
  rcases h with rfl | rfl | rfl | rfl | rfl | rfl | rfl | h
  case inr.inr.inr.inr.inr.inr.inr =>
    have e : kindText k = ⟨#[]⟩ := by unfold kindText; rw [if_neg (by omega), if_neg (by omega), if_neg (by omega), if_neg (by omega), if_neg (by omega), if_neg (by omega), if_neg (by omega)]
    have k1 : ¬ (k : Int) = 1 := by omega
    have k2 : ¬ (k : Int) = 2 := by omega
    have k3 : ¬ (k : Int) = 3 := by omega
    have k4 : ¬ (k : Int) = 4 := by omega
    have k5 : ¬ (k : Int) = 5 := by omega
    have k6 : ¬ (k : Int) = 6 := by omega
    have k7 : ¬ (k : Int) = 7 := by omega
    rw [e]
    clear e h
    go_enter Tryz.func28, Tryz.ntmps28
    go_wp2_with fail
    go_ret
    exact ⟨rfl, rfl⟩
  all_goals
    go_enter Tryz.func28, Tryz.ntmps28
    go_wp2_with fail
    go_ret
    exact ⟨rfl, rfl⟩

theorem ref11_may (k : Nat) (every : Int) (w : World) (hk : k < 256) (hv : -9223372036854775808 ≤ every ∧ every ≤ 9223372036854775807) :
    Calls Tryz.prog 25 #[.int .u8 (k : Nat), .int .i64 every] w fun e w' => e = .returned (.int .i64 (cmdErr k every : Nat)) ∧ Grew w w' := by
  have HL := fun w => Lib.hid (ref11_Letters k w hk)
  by_cases h7 : k = 0 ∨ 7 < k
  · have e : kindText k = ⟨#[]⟩ := by unfold kindText; rw [if_neg (by omega), if_neg (by omega), if_neg (by omega), if_neg (by omega), if_neg (by omega), if_neg (by omega), if_neg (by omega)]
    rw [cmd_none h7]
    rw [e] at HL
    go_enter Tryz.func25, Tryz.ntmps25
    go_wp2_with (go_at_call 28; refine (HL _).out.mono ?_; rintro e w1 ⟨rfl, rfl⟩)
    go_ret
    exact ⟨rfl, by repeat (first | exact Grew.refl _ | refine Grew.drew ?_)⟩
  have hk : 1 ≤ k ∧ k ≤ 7 := by omega
  have hL := kind_text k hk
  generalize kindText k = L at *
  by_cases he : every < 0 ∨ 10 < every
  · rw [cmd_arg hk he]
    rcases he with he | he
    all_goals
      go_enter Tryz.func25, Tryz.ntmps25
      go_wp2_with (go_at_call 28; refine (HL _).out.mono ?_; rintro e w1 ⟨rfl, rfl⟩)
      go_ret
      exact ⟨rfl, by repeat (first | exact Grew.refl _ | refine Grew.drew ?_)⟩
  have he : 0 ≤ every ∧ every ≤ 10 := by omega
  rw [cmd_ok hk he]
  have h0 : ¬ every < 0 := by omega
  have h1 : ¬ 10 < every := by omega
  clear he
  go_enter Tryz.func25, Tryz.ntmps25
  go_wp2_with (go_at_call 28; refine (HL _).out.mono ?_; rintro e w1 ⟨rfl, rfl⟩)
  go_ret
  exact ⟨rfl, by repeat (first | exact Grew.refl _ | refine Grew.drew ?_)⟩

/-- The document's digits: one more ahead. -/
theorem dig_more (i n : Nat) : digB (i + 1) n = (⟨#[UInt8.ofNat (48 + n / 10 ^ i % 10)]⟩ : ByteArray) ++ digB i n := by
  apply nat_ext
  unfold digB
  rw [digL_cons, nat_append]
  rfl
theorem row_byte (w : World) (x : Nat) (E : TypeId) (fr : Nat × Nat) (b : Nat) (hb : b = w.heap.size) : Row .u8 (w.alloc (.cells #[.int .u8 (x : Nat)] E fr)) (.slice (some ⟨b, 0, none⟩) 1 1) [x] := by
  subst hb
  have := row_lit w E fr [x]
  simpa using this
theorem str_one (x : Nat) : strOf [x] = ⟨#[UInt8.ofNat x]⟩ := rfl
set_option maxRecDepth 100000 in
set_option maxHeartbeats 600000 in
theorem ref11_digits (n k : Nat) (w : World) (hn : n < 1000000000) (hk : k ≤ 8) :
    Calls Tryz.prog 26 #[.int .i64 (n : Nat), .int .i64 (k : Nat)] w fun e w' => e = .returned (.string (digB k n)) ∧ Grew w w' := by
  go_enter Tryz.func26, Tryz.ntmps26
  go_wp2_with fail
  go_loopg [0, 5, 6] k (fun kx s0 s5 s6 wr => ∃ i : Nat, i + kx = k ∧ s6 = .int .i64 i ∧ s0 = .int .i64 (n / 10 ^ i : Nat) ∧ s5 = .string (digB i n) ∧ Hid (Grew w wr))
  case atStart => exact ⟨0, by omega, rfl, by simp, rfl, Lib.hid (Grew.refl _)⟩
  case round =>
    obtain ⟨i, hi, rfl, rfl, rfl, hg⟩ := hrel
    by_cases hlt : i < k
    · have hm := Lib.hid (dig_more i n)
      have hq := Lib.hid (show n / 10 ^ (i + 1) = n / 10 ^ i / 10 by rw [Nat.pow_succ, Nat.div_div_eq_div_mul])
      have hz := digB_size i n
      have hle : n / 10 ^ i ≤ n := Nat.div_le_self _ _
      generalize digB i n = T at *
      generalize n / 10 ^ i = q at *
      have hR := fun b hb => Row.string _ (row_byte wr (48 + q % 10) 5 (0, 0) b hb) 25 5 Tryz.underlying25 Tryz.underlying5 9 Tryz.underlying9
      have hR := hR _ rfl
      rw [str_one] at hR
      rw [show ((48 + q % 10 : Nat) : Int) = 48 + (q : Int) % 10 by omega] at hR
      have c1 : ¬ 9223372036854775807 < 1 + T.size := by omega
      go_wp2_with fail
      go_roundg (k - (i + 1))
      case measure => omega
      case rel => exact ⟨i + 1, by omega, by go_num, by rw [hq.out]; simp, by rw [hm.out, UInt8.ofNat_add]; rfl, Lib.hid (hg.out.alloc _)⟩
    · obtain rfl : i = k := by omega
      go_wp2_with fail
      go_ret
      exact ⟨rfl, hg.out⟩

def nm : List ByteArray := [⟨#[71, 71, 65]⟩, ⟨#[71, 76, 76]⟩, ⟨#[71, 83, 65]⟩, ⟨#[71, 83, 86]⟩, ⟨#[82, 77, 67]⟩, ⟨#[86, 84, 71]⟩, ⟨#[]⟩, ⟨#[]⟩, ⟨#[90, 68, 65]⟩]
theorem nm_eq (k i : Nat) (hk : 1 ≤ k ∧ k ≤ 7) (hi : i < 9) : ((nm.getD i ⟨#[]⟩).toList == (kindText k).toList) = decide (i = kindNum k) := by
  have : ∀ (i : Fin 9) (k : Fin 8), 1 ≤ k.val → ((nm.getD i.val ⟨#[]⟩).toList == (kindText k.val).toList) = decide (i.val = kindNum k.val) := by decide +kernel
  exact this ⟨i, hi⟩ ⟨k, by omega⟩ hk.1
theorem nm_new (w : World) (E : TypeId) : ∃ W, w.alloc (.cells #[.string ⟨#[71, 71, 65]⟩, .string ⟨#[71, 76, 76]⟩, .string ⟨#[71, 83, 65]⟩, .string ⟨#[71, 83, 86]⟩, .string ⟨#[82, 77, 67]⟩, .string ⟨#[86, 84, 71]⟩, .string ⟨#[]⟩, .string ⟨#[]⟩, .string ⟨#[90, 68, 65]⟩] E) = W ∧ Grew w W ∧ w.heap.size < W.heap.size ∧ ∀ i, i < 9 → W.cell? ⟨w.heap.size, i, none⟩ = some (.string (nm.getD i ⟨#[]⟩)) := by
  refine ⟨_, rfl, (Grew.refl w).alloc _, by simp, fun i hi => ?_⟩
  rcases (show i = 0 ∨ i = 1 ∨ i = 2 ∨ i = 3 ∨ i = 4 ∨ i = 5 ∨ i = 6 ∨ i = 7 ∨ i = 8 by omega) with rfl | rfl | rfl | rfl | rfl | rfl | rfl | rfl | rfl <;> simp [go_sem, nm]
set_option maxHeartbeats 600000 in
set_option maxRecDepth 100000 in
theorem ref11_number (k : Nat) (w : World) (hk : 1 ≤ k ∧ k ≤ 7) : Calls Tryz.prog 29 #[.int .u8 (k : Nat)] w fun e w' => e = .returned (.int .i64 (kindNum k : Nat)) ∧ Grew w w' := by
  have HL := fun w => Lib.hid (ref11_Letters k w (by omega))
  have hE := fun i hi => nm_eq k i hk hi
  have hm := kindNum_lt k
  have h9 : kindNum k < 9 := by
    have : ∀ k : Fin 8, kindNum k.val < 9 := by decide
    exact this ⟨k, by omega⟩
  generalize kindText k = L at *
  generalize kindNum k = m at *
  replace hE := Lib.hid hE
  go_enter Tryz.func29, Tryz.ntmps29
  go_upto_region 2 with fail
  obtain ⟨W, hW, gW, hl, hc⟩ := nm_new w 9
  rw [hW]
  clear hW
  have HC := Lib.hid hc
  have HG := Lib.hid gW
  clear hc gW
  go_wp2_with fail
  go_loopg [4] 9 (fun kx s4 wr => ∃ i : Nat, i + kx = 9 ∧ s4 = .int .i64 i ∧ i ≤ m ∧ Hid (Grew W wr))
  case atStart => exact ⟨0, by omega, rfl, by omega, Lib.hid (Grew.refl _)⟩
  case round =>
    obtain ⟨i, hi, rfl, him, hg⟩ := hrel
    have c0 : (i : Int) < 9 := by omega
    have hx : wr.cell? ⟨w.heap.size, i, none⟩ = some (.string (nm.getD i ⟨#[]⟩)) := (hg.out.cell (by exact hl)).trans (HC.out i (by omega))
    have hq := hE.out i (by omega)
    generalize nm.getD i ⟨#[]⟩ = N at *
    by_cases he : i = m
    · subst he
      rw [decide_eq_true rfl] at hq
      go_wp2_with fail
      go_quiet (first | (go_at_call 28; exact Calls.quiet_of_same ((HL _).out.mono fun _ _ h => ⟨h.1, h.2.symm⟩)))
      go_wp2_with fail
      go_ret
      exact ⟨rfl, (HG.out.trans hg.out).drewN _⟩
    · rw [decide_eq_false he] at hq
      go_wp2_with fail
      go_quiet (first | (go_at_call 28; exact Calls.quiet_of_same ((HL _).out.mono fun _ _ h => ⟨h.1, h.2.symm⟩)))
      go_wp2_with fail
      go_roundg (9 - (i + 1))
      case measure => omega
      case rel => exact ⟨i + 1, by omega, by go_num, by omega, Lib.hid (hg.out.drewN _)⟩
end Go.Proofs.YtcdmbnbanopioaaGreatDoor

namespace Go.Proofs.YtcdmbnbanopioaaGreatDoor
open Go.RowKit
set_option linter.unusedVariables false



end Go.Proofs.YtcdmbnbanopioaaGreatDoor

namespace Go.Proofs.YtcdmbnbanopioaaGreatDoor
open Go.RowKit
set_option linter.unusedVariables false

set_option maxHeartbeats 1000000 in
theorem ref11_Rate (k : Nat) (every : Int) (w : World) (hk : k < 256) (hv : -9223372036854775808 ≤ every ∧ every ≤ 9223372036854775807) :
    Calls Tryz.prog 11 #[.int .u8 (k : Nat), .int .i64 every] w (CmdT (cmdErr k every) (rateB (kindText k) every.toNat) w) := by
  have HM := fun w => ref11_may k every w hk hv
  by_cases h0 : cmdErr k every = 0
  · rw [h0] at HM
    replace HM := fun w => Lib.hid (HM w)
    have hkk : 1 ≤ k ∧ k ≤ 7 := by
      unfold cmdErr at h0
      by_cases q : k = 0 ∨ 7 < k
      · rw [if_pos q] at h0; cases h0
      · omega
    have he : 0 ≤ every ∧ every ≤ 10 := by
      unfold cmdErr at h0
      rw [if_neg (by omega)] at h0
      by_cases q : every < 0 ∨ 10 < every
      · rw [if_pos q] at h0; cases h0
      · omega
    rw [h0, cmdT_ok]
    obtain ⟨n, rfl⟩ : ∃ n : Nat, every = n := ⟨every.toNat, by omega⟩
    rw [Int.toNat_natCast]
    have HL := fun w => Lib.hid (ref11_Letters k w hk)
    have hL := kindText_size k
    have hE := every_size n
    have HS := fun w => ref11_Sentence (rateB (kindText k) n) w (by rw [rateB_size]; omega)
    obtain ⟨er, hEr⟩ : ∃ er, Hid (sentErr (rateB (kindText k) n) = er) := ⟨_, Lib.hid rfl⟩
    obtain ⟨L, hLr⟩ : ∃ L, Hid (sentRow (rateB (kindText k) n) = L) := ⟨_, Lib.hid rfl⟩
    rw [hEr.out, hLr.out] at HS
    rw [hEr.out, hLr.out]
    clear hEr hLr
    have HD := fun w => Lib.hid (ref11_digits n 1 w (by omega) (by decide))
    have hu := Lib.hid (show rateB (kindText k) n = (⟨#[80, 85, 66, 88, 44, 52, 48, 44]⟩ : ByteArray) ++ kindText k ++ (⟨#[44, 48, 44]⟩ : ByteArray) ++ everyB n ++ (⟨#[44, 48, 44, 48, 44, 48, 44, 48]⟩ : ByteArray) from rfl)
    rw [hu.out] at HS
    replace HS := fun w => Lib.hid (HS w)
    clear hu h0
    generalize kindText k = A at *
    have j1 : ¬ 9223372036854775807 < 8 + A.size := by omega
    have j2 : ¬ 9223372036854775807 < 8 + A.size + 3 := by omega
    by_cases h10 : n = 10
    · subst h10
      rw [show everyB 10 = ⟨#[49, 48]⟩ from rfl] at HS
      have j3 : ¬ 9223372036854775807 < 8 + A.size + 3 + 2 := by omega
      have j4 : ¬ 9223372036854775807 < 8 + A.size + 3 + 2 + 8 := by omega
      clear hE
      go_enter Tryz.func11, Tryz.ntmps11
      go_wp2_with (first | (go_at_call 25; refine (HM _).out.mono ?_; rintro e w1 ⟨rfl, g1⟩) | (go_at_call 26; refine (HD _).out.mono ?_; rintro e w2 ⟨rfl, g2⟩) | (go_at_call 28; refine (HL _).out.mono ?_; rintro e w3 ⟨rfl, rfl⟩) | (go_at_call 27; refine (HS _).out.mono ?_; rintro e w4 ⟨v, rfl, hrow, g4⟩))
      go_ret2
      exact ⟨v, rfl, hrow, (g1.trans g2).trans g4⟩
    · have hn : ¬ (n : Int) = 10 := by omega
      have hev : everyB n = digB 1 n := by unfold everyB; rw [if_neg h10]
      rw [hev] at HS hE
      generalize digB 1 n = B at *
      have j3 : ¬ 9223372036854775807 < 8 + A.size + 3 + B.size := by omega
      have j4 : ¬ 9223372036854775807 < 8 + A.size + 3 + B.size + 8 := by omega
      clear hev h10 hE
      go_enter Tryz.func11, Tryz.ntmps11
      go_wp2_with (first | (go_at_call 25; refine (HM _).out.mono ?_; rintro e w1 ⟨rfl, g1⟩) | (go_at_call 26; refine (HD _).out.mono ?_; rintro e w2 ⟨rfl, g2⟩) | (go_at_call 28; refine (HL _).out.mono ?_; rintro e w3 ⟨rfl, rfl⟩) | (go_at_call 27; refine (HS _).out.mono ?_; rintro e w4 ⟨v, rfl, hrow, g4⟩))
      go_ret2
      exact ⟨v, rfl, hrow, (g1.trans g2).trans g4⟩
  · generalize cmdErr k every = er at *
    replace HM := fun w => Lib.hid (HM w)
    have h1 : ((er : Int) == 0) = false := by simp; omega
    have h2 : ¬ (er : Int) = 0 := by omega
    have H := fun w' g => Lib.hid (cmdT_no (s := rateB (kindText k) every.toNat) (w := w) (w' := w') h0 g)
    clear h0
    go_enter Tryz.func11, Tryz.ntmps11
    go_wp2_with (first | (go_at_call 25; refine (HM _).out.mono ?_; rintro e w1 ⟨rfl, g1⟩))
    go_ret2
    exact (H _ g1).out

set_option maxHeartbeats 1000000 in
theorem ref11_Ask (k : Nat) (every : Int) (w : World) (hk : k < 256) (hv : -9223372036854775808 ≤ every ∧ every ≤ 9223372036854775807) :
    Calls Tryz.prog 12 #[.int .u8 (k : Nat), .int .i64 every] w (CmdT (cmdErr k every) (askB (kindNum k) every.toNat) w) := by
  have HM := fun w => ref11_may k every w hk hv
  by_cases h0 : cmdErr k every = 0
  · rw [h0] at HM
    replace HM := fun w => Lib.hid (HM w)
    have hkk : 1 ≤ k ∧ k ≤ 7 := by
      unfold cmdErr at h0
      by_cases q : k = 0 ∨ 7 < k
      · rw [if_pos q] at h0; cases h0
      · omega
    have he : 0 ≤ every ∧ every ≤ 10 := by
      unfold cmdErr at h0
      rw [if_neg (by omega)] at h0
      by_cases q : every < 0 ∨ 10 < every
      · rw [if_pos q] at h0; cases h0
      · omega
    rw [h0, cmdT_ok]
    obtain ⟨n, rfl⟩ : ∃ n : Nat, every = n := ⟨every.toNat, by omega⟩
    rw [Int.toNat_natCast]
    have HN := fun w => Lib.hid (ref11_number k w hkk)
    have hm := kindNum_lt k
    generalize kindNum k = m at *
    have HS := fun w => ref11_Sentence (askB m n) w (by rw [askB_size]; decide)
    obtain ⟨er, hEr⟩ : ∃ er, Hid (sentErr (askB m n) = er) := ⟨_, Lib.hid rfl⟩
    obtain ⟨L, hLr⟩ : ∃ L, Hid (sentRow (askB m n) = L) := ⟨_, Lib.hid rfl⟩
    rw [hEr.out, hLr.out] at HS
    rw [hEr.out, hLr.out]
    clear hEr hLr
    have HDm := fun w => Lib.hid (ref11_digits m 2 w (by omega) (by decide))
    have HDn := fun w => Lib.hid (ref11_digits n 2 w (by omega) (by decide))
    have hu := Lib.hid (show askB m n = (⟨#[80, 83, 82, 70, 49, 48, 51, 44]⟩ : ByteArray) ++ digB 2 m ++ (⟨#[44, 48, 44]⟩ : ByteArray) ++ digB 2 n ++ (⟨#[44, 49]⟩ : ByteArray) from rfl)
    rw [hu.out] at HS
    replace HS := fun w => Lib.hid (HS w)
    have z1 := digB_size 2 m
    have z2 := digB_size 2 n
    clear hu h0
    generalize digB 2 m = A at *
    generalize digB 2 n = B at *
    have j1 : ¬ 9223372036854775807 < 8 + A.size := by omega
    have j2 : ¬ 9223372036854775807 < 8 + A.size + 3 := by omega
    have j3 : ¬ 9223372036854775807 < 8 + A.size + 3 + B.size := by omega
    have j4 : ¬ 9223372036854775807 < 8 + A.size + 3 + B.size + 2 := by omega
    clear z1 z2
    go_enter Tryz.func12, Tryz.ntmps12
    go_wp2_with (first | (go_at_call 25; refine (HM _).out.mono ?_; rintro e w1 ⟨rfl, g1⟩) | (go_at_call 29; refine (HN _).out.mono ?_; rintro e w2 ⟨rfl, g2⟩))
    refine (HDm _).out.mono ?_
    rintro e w3 ⟨rfl, g3⟩
    go_wp2_with fail
    refine (HDn _).out.mono ?_
    rintro e w4 ⟨rfl, g4⟩
    go_wp2_with (go_at_call 27; refine (HS _).out.mono ?_; rintro e w5 ⟨v, rfl, hrow, g5⟩)
    go_ret2
    exact ⟨v, rfl, hrow, (((g1.trans g2).trans g3).trans g4).trans g5⟩
  · generalize cmdErr k every = er at *
    replace HM := fun w => Lib.hid (HM w)
    have h1 : ((er : Int) == 0) = false := by simp; omega
    have h2 : ¬ (er : Int) = 0 := by omega
    have H := fun w' g => Lib.hid (cmdT_no (s := askB (kindNum k) every.toNat) (w := w) (w' := w') h0 g)
    clear h0
    go_enter Tryz.func12, Tryz.ntmps12
    go_wp2_with (first | (go_at_call 25; refine (HM _).out.mono ?_; rintro e w1 ⟨rfl, g1⟩))
    go_ret2
    exact (H _ g1).out
end Go.Proofs.YtcdmbnbanopioaaGreatDoor

