/-
  The program's checksums: bytes that are handed on, one by one.
  The program's Fletcher sums: a struct of two bytes that is handed on.
-/
import Derived.Test.YtjjpfbdcfifofaaSumX
import Derived.Test.YtjjpfbdcfifofaaRowK
import Derived.StillTailTactics
import Derived.Shelf.Abstract
import Derived.Deep.LoopGhost
namespace Go.Proofs.Ytjjpfbdcfifofaa
open Go.RowKit
set_option linter.unusedVariables false

/- The program's checksums: bytes that are handed on, one by one. -/

set_option maxHeartbeats 1000000 in
theorem through_u16 (g : Nat) (v : Value) (ns : List Nat) (c : Nat) (f : Nat → Nat → Nat) (M : Nat → Prop) (w : World) (h : Row .u8 w v ns) (hB : Bytes ns) (hl : ns.length ≤ 5000)
    (eg : ∀ args w, (callFunc g args).run Try.prog w = .ok (.enter g args) w) (h0 : M c)
    (hf : ∀ (a x : Nat) w', M a → x < 256 → Calls Try.prog g #[.int .u16 a, .int .u8 x] w' fun e w'' => e = .returned (.int .u16 (f a x : Nat)) ∧ Grew w' w'' ∧ M (f a x)) :
    Calls Try.prog 28 #[v, .int .u16 c, .func (.func g) #[] #[]] w fun e w' => e = .returned (.int .u16 (run f c ns ns.length : Nat)) ∧ Grew w w' := by
  have HF : Hid _ := hf
  clear hf
  obtain ⟨A, c', rfl, hc, hr⟩ := h
  have HR := Lib.hid hr
  clear hr
  go_enter Try.func28, Try.ntmps28
  go_wp2_with fail
  go_loopg [7, 13] (ns.length) (fun kx s7 s13 wr => ∃ k : Nat, k + kx = ns.length ∧ s13 = .int .i64 k ∧ s7 = .int .u16 (run f c ns k : Nat) ∧ Hid (M (run f c ns k)) ∧ Grew w wr)
  case atStart => exact ⟨0, by omega, rfl, rfl, Lib.hid h0, Grew.refl _⟩
  case round =>
    obtain ⟨k, hk, rfl, rfl, hM, hg⟩ := hrel
    by_cases hlt : k < ns.length
    · obtain ⟨b, o, rfl, hb, hcell⟩ := HR.out (by omega)
      have hx := (hg.cell (p := ⟨b, o + k, none⟩) hb).trans (hcell k hlt)
      have H := HF.out (run f c ns k) (wd ns k) wr hM.out (hB k)
      have HS : Hid (f (run f c ns k) (wd ns k) = run f c ns (k + 1)) := Lib.hid rfl
      rw [HS.out] at H
      clear hcell
      go_wp2_with (go_at_fn g; refine H.mono ?_; rintro e w' ⟨rfl, g1, hM1⟩; replace hM1 := Lib.hid hM1)
      go_roundg (ns.length - (k + 1))
      case measure => omega
      case rel => exact ⟨k + 1, by omega, by go_num, rfl, hM1, hg.trans g1⟩
    · obtain rfl : k = ns.length := by omega
      go_wp2_with fail
      go_ret
      exact ⟨rfl, hg⟩




theorem fif_one (a x : Nat) (w : World) (ha : a < 65536) (hx : x < 256) :
    Calls Try.prog 29 #[.int .u16 a, .int .u8 x] w fun e w' => e = .returned (.int .u16 ((a + x) % 65536 : Nat)) ∧ Grew w w' := by
  go_enter Try.func29, Try.ntmps29
  go_wp2_with fail
  go_ret
  exact ⟨ret_int (by simp only [wrap_u16]; omega), Grew.refl _⟩

theorem run_mod16 (ns : List Nat) : ∀ k, run (fun a x => (a + x) % 65536) 0 ns k = addTo ns k % 65536
  | 0 => rfl
  | k + 1 => by
    have e : addTo ns (k + 1) = addTo ns k + wd ns k := rfl
    rw [run, run_mod16 ns k, e]; omega
theorem and_fifteen (a : Nat) (h : a < 65536) : bits BinOp.and IntKind.u16 (a : Int) 32767 = ((a % 32768 : Nat) : Int) := by
  have := bits_and_u16_n a 32767 h (by omega)
  rw [show (32767 : Nat) = 2 ^ 15 - 1 from rfl, Nat.and_two_pow_sub_one_eq_mod] at this
  exact this
set_option maxRecDepth 100000 in
theorem sums_Fifteen (v : Value) (ns : List Nat) (w : World) (h : Row .u8 w v ns) (hB : Bytes ns) (hl : ns.length ≤ 5000) :
    Calls Try.prog 22 #[v] w fun e w' => e = .returned (.int .u16 (fifOf ns : Nat)) ∧ Grew w w' := by
  have H := Lib.hid (through_u16 29 v ns 0 (fun a x => (a + x) % 65536) (fun a => a < 65536) w h hB hl (fun _ _ => rfl) (by decide) (fun a x w' ha hx => (fif_one a x w' ha hx).mono fun e w'' ⟨he, hg⟩ => ⟨he, hg, Nat.mod_lt _ (by decide)⟩))
  obtain ⟨n, hn⟩ : ∃ n, run (fun a x => (a + x) % 65536) 0 ns ns.length = n := ⟨_, rfl⟩
  have hm := run_mod16 ns ns.length
  rw [hn] at H hm
  have HA := Lib.hid (and_fifteen n (by rw [hm]; exact Nat.mod_lt _ (by decide)))
  have HE : Hid (n % 32768 = fifOf ns) := by show _ = _; rw [hm, fifOf]; omega
  clear hm hn h
  go_enter Try.func22, Try.ntmps22
  go_wp2_with (go_at_call 28; refine H.out.mono ?_; rintro e w' ⟨rfl, g1⟩)
  go_ret
  exact ⟨ret_int (by rw [← HE.out]; exact HA.out), g1⟩



/- The program's Fletcher sums: a struct of two bytes that is handed on. -/
end Go.Proofs.Ytjjpfbdcfifofaa
