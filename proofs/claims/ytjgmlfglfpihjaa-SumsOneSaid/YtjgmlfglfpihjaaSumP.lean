/-
  The program's checksums: bytes that are handed on, one by one.
-/
import Derived.Test.YtjgmlfglfpihjaaSumL
import Derived.Shelf.Abstract
import Derived.Deep.LoopGhost
namespace Go.Proofs.Ytjgmlfglfpihjaa
open Go.RowKit
set_option linter.unusedVariables false

set_option maxHeartbeats 1000000 in
theorem through_u8 (g : Nat) (v : Value) (ns : List Nat) (c : Nat) (f : Nat → Nat → Nat) (M : Nat → Prop) (w : World) (h : Row .u8 w v ns) (hB : Bytes ns) (hl : ns.length ≤ 5000)
    (eg : ∀ args w, (callFunc g args).run Try.prog w = .ok (.enter g args) w) (h0 : M c)
    (hf : ∀ (a x : Nat) w', M a → x < 256 → Calls Try.prog g #[.int .u8 a, .int .u8 x] w' fun e w'' => e = .returned (.int .u8 (f a x : Nat)) ∧ Grew w' w'' ∧ M (f a x)) :
    Calls Try.prog 16 #[v, .int .u8 c, .func (.func g) #[] #[]] w fun e w' => e = .returned (.int .u8 (run f c ns ns.length : Nat)) ∧ Grew w w' := by
  have HF : Hid _ := hf
  clear hf
  obtain ⟨A, c', rfl, hc, hr⟩ := h
  have HR := Lib.hid hr
  clear hr
  go_enter Try.func16, Try.ntmps16
  go_wp2_with fail
  go_loopg [7, 13] (ns.length) (fun kx s7 s13 wr => ∃ k : Nat, k + kx = ns.length ∧ s13 = .int .i64 k ∧ s7 = .int .u8 (run f c ns k : Nat) ∧ Hid (M (run f c ns k)) ∧ Grew w wr)
  case atStart => exact ⟨0, by omega, rfl, rfl, Lib.hid h0, Grew.refl _⟩
  case round =>
    obtain ⟨k, hk, rfl, rfl, hM, hg⟩ := hrel
    by_cases hlt : k < ns.length
    · obtain ⟨b, o, rfl, hb, hcell⟩ := HR.out (by omega)
      have hx := (hg.cell (p := ⟨b, o + k, none⟩) hb).trans (hcell k hlt)
      have H := HF.out (run f c ns k) (wd ns k) wr hM.out (hB k)
      have HS : Hid (f (run f c ns k) (wd ns k) = run f c ns (k + 1)) := Lib.hid rfl
      rw [HS.out] at H
      clear hcell
      go_wp2_with (go_at_fn g; refine H.mono ?_; rintro e w' ⟨rfl, g1, hM1⟩; replace hM1 := Lib.hid hM1)
      go_roundg (ns.length - (k + 1))
      case measure => omega
      case rel => exact ⟨k + 1, by omega, by go_num, rfl, hM1, hg.trans g1⟩
    · obtain rfl : k = ns.length := by omega
      go_wp2_with fail
      go_ret
      exact ⟨rfl, hg⟩

set_option maxHeartbeats 1000000 in
theorem through_u16 (g : Nat) (v : Value) (ns : List Nat) (c : Nat) (f : Nat → Nat → Nat) (M : Nat → Prop) (w : World) (h : Row .u8 w v ns) (hB : Bytes ns) (hl : ns.length ≤ 5000)
    (eg : ∀ args w, (callFunc g args).run Try.prog w = .ok (.enter g args) w) (h0 : M c)
    (hf : ∀ (a x : Nat) w', M a → x < 256 → Calls Try.prog g #[.int .u16 a, .int .u8 x] w' fun e w'' => e = .returned (.int .u16 (f a x : Nat)) ∧ Grew w' w'' ∧ M (f a x)) :
    Calls Try.prog 18 #[v, .int .u16 c, .func (.func g) #[] #[]] w fun e w' => e = .returned (.int .u16 (run f c ns ns.length : Nat)) ∧ Grew w w' := by
  have HF : Hid _ := hf
  clear hf
  obtain ⟨A, c', rfl, hc, hr⟩ := h
  have HR := Lib.hid hr
  clear hr
  go_enter Try.func18, Try.ntmps18
  go_wp2_with fail
  go_loopg [7, 13] (ns.length) (fun kx s7 s13 wr => ∃ k : Nat, k + kx = ns.length ∧ s13 = .int .i64 k ∧ s7 = .int .u16 (run f c ns k : Nat) ∧ Hid (M (run f c ns k)) ∧ Grew w wr)
  case atStart => exact ⟨0, by omega, rfl, rfl, Lib.hid h0, Grew.refl _⟩
  case round =>
    obtain ⟨k, hk, rfl, rfl, hM, hg⟩ := hrel
    by_cases hlt : k < ns.length
    · obtain ⟨b, o, rfl, hb, hcell⟩ := HR.out (by omega)
      have hx := (hg.cell (p := ⟨b, o + k, none⟩) hb).trans (hcell k hlt)
      have H := HF.out (run f c ns k) (wd ns k) wr hM.out (hB k)
      have HS : Hid (f (run f c ns k) (wd ns k) = run f c ns (k + 1)) := Lib.hid rfl
      rw [HS.out] at H
      clear hcell
      go_wp2_with (go_at_fn g; refine H.mono ?_; rintro e w' ⟨rfl, g1, hM1⟩; replace hM1 := Lib.hid hM1)
      go_roundg (ns.length - (k + 1))
      case measure => omega
      case rel => exact ⟨k + 1, by omega, by go_num, rfl, hM1, hg.trans g1⟩
    · obtain rfl : k = ns.length := by omega
      go_wp2_with fail
      go_ret
      exact ⟨rfl, hg⟩

set_option maxHeartbeats 1000000 in
theorem through_u32 (g : Nat) (v : Value) (ns : List Nat) (c : Nat) (f : Nat → Nat → Nat) (M : Nat → Prop) (w : World) (h : Row .u8 w v ns) (hB : Bytes ns) (hl : ns.length ≤ 5000)
    (eg : ∀ args w, (callFunc g args).run Try.prog w = .ok (.enter g args) w) (h0 : M c)
    (hf : ∀ (a x : Nat) w', M a → x < 256 → Calls Try.prog g #[.int .u32 a, .int .u8 x] w' fun e w'' => e = .returned (.int .u32 (f a x : Nat)) ∧ Grew w' w'' ∧ M (f a x)) :
    Calls Try.prog 20 #[v, .int .u32 c, .func (.func g) #[] #[]] w fun e w' => e = .returned (.int .u32 (run f c ns ns.length : Nat)) ∧ Grew w w' := by
  have HF : Hid _ := hf
  clear hf
  obtain ⟨A, c', rfl, hc, hr⟩ := h
  have HR := Lib.hid hr
  clear hr
  go_enter Try.func20, Try.ntmps20
  go_wp2_with fail
  go_loopg [7, 13] (ns.length) (fun kx s7 s13 wr => ∃ k : Nat, k + kx = ns.length ∧ s13 = .int .i64 k ∧ s7 = .int .u32 (run f c ns k : Nat) ∧ Hid (M (run f c ns k)) ∧ Grew w wr)
  case atStart => exact ⟨0, by omega, rfl, rfl, Lib.hid h0, Grew.refl _⟩
  case round =>
    obtain ⟨k, hk, rfl, rfl, hM, hg⟩ := hrel
    by_cases hlt : k < ns.length
    · obtain ⟨b, o, rfl, hb, hcell⟩ := HR.out (by omega)
      have hx := (hg.cell (p := ⟨b, o + k, none⟩) hb).trans (hcell k hlt)
      have H := HF.out (run f c ns k) (wd ns k) wr hM.out (hB k)
      have HS : Hid (f (run f c ns k) (wd ns k) = run f c ns (k + 1)) := Lib.hid rfl
      rw [HS.out] at H
      clear hcell
      go_wp2_with (go_at_fn g; refine H.mono ?_; rintro e w' ⟨rfl, g1, hM1⟩; replace hM1 := Lib.hid hM1)
      go_roundg (ns.length - (k + 1))
      case measure => omega
      case rel => exact ⟨k + 1, by omega, by go_num, rfl, hM1, hg.trans g1⟩
    · obtain rfl : k = ns.length := by omega
      go_wp2_with fail
      go_ret
      exact ⟨rfl, hg⟩

theorem xor_one (a x : Nat) (w : World) (ha : a < 256) (hx : x < 256) :
    Calls Try.prog 17 #[.int .u8 a, .int .u8 x] w fun e w' => e = .returned (.int .u8 (a ^^^ x : Nat)) ∧ Grew w w' := by
  have H := Lib.hid (bits_xor_u8_n a x ha hx)
  go_enter Try.func17, Try.ntmps17
  go_wp2_with fail
  go_ret
  exact ⟨ret_int H.out, Grew.refl _⟩

theorem sums_Xor (v : Value) (ns : List Nat) (w : World) (h : Row .u8 w v ns) (hB : Bytes ns) (hl : ns.length ≤ 5000) :
    Calls Try.prog 8 #[v] w fun e w' => e = .returned (.int .u8 (xorOf ns : Nat)) ∧ Grew w w' := by
  have H := Lib.hid (through_u8 17 v ns 0 (fun a x => a ^^^ x) (fun a => a < 256) w h hB hl (fun _ _ => rfl) (by decide) (fun a x w' ha hx => (xor_one a x w' ha hx).mono fun e w'' ⟨he, hg⟩ => ⟨he, hg, Nat.xor_lt_two_pow (n := 8) ha hx⟩))
  have E : Hid (run (fun a x => a ^^^ x) 0 ns ns.length = xorOf ns) := Lib.hid rfl
  rw [E.out] at H
  clear h
  go_enter Try.func8, Try.ntmps8
  go_wp2_with (go_at_call 16; refine H.out.mono ?_; rintro e w' ⟨rfl, g1⟩)
  go_ret
  exact ⟨rfl, g1⟩

theorem fif_one (a x : Nat) (w : World) (ha : a < 65536) (hx : x < 256) :
    Calls Try.prog 19 #[.int .u16 a, .int .u8 x] w fun e w' => e = .returned (.int .u16 ((a + x) % 65536 : Nat)) ∧ Grew w w' := by
  go_enter Try.func19, Try.ntmps19
  go_wp2_with fail
  go_ret
  exact ⟨ret_int (by simp only [wrap_u16]; omega), Grew.refl _⟩

theorem run_mod16 (ns : List Nat) : ∀ k, run (fun a x => (a + x) % 65536) 0 ns k = addTo ns k % 65536
  | 0 => rfl
  | k + 1 => by
    have e : addTo ns (k + 1) = addTo ns k + wd ns k := rfl
    rw [run, run_mod16 ns k, e]; omega
theorem and_fifteen (a : Nat) (h : a < 65536) : bits BinOp.and IntKind.u16 (a : Int) 32767 = ((a % 32768 : Nat) : Int) := by
  have := bits_and_u16_n a 32767 h (by omega)
  rw [show (32767 : Nat) = 2 ^ 15 - 1 from rfl, Nat.and_two_pow_sub_one_eq_mod] at this
  exact this
theorem sums_Fifteen (v : Value) (ns : List Nat) (w : World) (h : Row .u8 w v ns) (hB : Bytes ns) (hl : ns.length ≤ 5000) :
    Calls Try.prog 10 #[v] w fun e w' => e = .returned (.int .u16 (fifOf ns : Nat)) ∧ Grew w w' := by
  have H := Lib.hid (through_u16 19 v ns 0 (fun a x => (a + x) % 65536) (fun a => a < 65536) w h hB hl (fun _ _ => rfl) (by decide) (fun a x w' ha hx => (fif_one a x w' ha hx).mono fun e w'' ⟨he, hg⟩ => ⟨he, hg, Nat.mod_lt _ (by decide)⟩))
  obtain ⟨n, hn⟩ : ∃ n, run (fun a x => (a + x) % 65536) 0 ns ns.length = n := ⟨_, rfl⟩
  have hm := run_mod16 ns ns.length
  rw [hn] at H hm
  have HA := Lib.hid (and_fifteen n (by rw [hm]; exact Nat.mod_lt _ (by decide)))
  have HE : Hid (n % 32768 = fifOf ns) := by show _ = _; rw [hm, fifOf]; omega
  clear hm hn h
  go_enter Try.func10, Try.ntmps10
  go_wp2_with (go_at_call 18; refine H.out.mono ?_; rintro e w' ⟨rfl, g1⟩)
  go_ret
  exact ⟨ret_int (by rw [← HE.out]; exact HA.out), g1⟩

theorem and_one32 (n : Nat) (h : n < 4294967296) : bits BinOp.and IntKind.u32 (n : Int) 1 = ((n % 2 : Nat) : Int) := by
  have := bits_and_u32_n n 1 h (by omega)
  rw [Nat.and_one_is_mod] at this
  exact this
set_option maxHeartbeats 1000000 in
theorem sums_shifted (r : Nat) (w : World) (hr : r < 4294967296) :
    Calls Try.prog 22 #[.int .u32 r] w fun e w' => e = .returned (.int .u32 (shN 8 r : Nat)) ∧ w = w' := by
  go_enter Try.func22, Try.ntmps22
  go_wp2_with fail
  go_loop [0, 4] (fun s i => ∃ (k x : Nat), k ≤ 8 ∧ i = .int .i64 (k : Nat) ∧ s = .int .u32 (x : Nat) ∧ x < 4294967296 ∧ Hid (shN k r = x)) (fun _ i => 8 - (intOf i).toNat)
  case atStart => exact ⟨0, r, by omega, rfl, rfl, hr, Lib.hid rfl⟩
  case round =>
    obtain ⟨k, x, hk, rfl, rfl, hx, hS⟩ := hrel
    by_cases hlt : k < 8
    · have hA := and_one32 x hx
      by_cases hb : x % 2 = 1
      · have hT : Hid (shN (k + 1) r = x / 2 ^^^ poly) := by show _ = _; rw [shN, hS.out, sh, if_pos hb]
        rw [hb] at hA
        clear hS hb
        go_wp2_with fail
        go_round
        case rel => exact ⟨k + 1, x / 2 ^^^ poly, by omega, by go_num, crc_xor x hx, Nat.xor_lt_two_pow (n := 32) (by omega) (by decide), hT⟩
        case measure => simp [intOf]; omega
      · have hb0 : x % 2 = 0 := by omega
        have hT : Hid (shN (k + 1) r = x / 2) := by show _ = _; rw [shN, hS.out, sh, if_neg hb, Nat.xor_zero]
        rw [hb0] at hA
        clear hS hb hb0
        go_wp2_with fail
        go_round
        case rel => exact ⟨k + 1, x / 2, by omega, by go_num, by go_num, by omega, hT⟩
        case measure => simp [intOf]; omega
    · obtain rfl : k = 8 := by omega
      go_wp2_with fail
      go_ret
      exact ⟨ret_int (by rw [hS.out]), rfl⟩

theorem crc_one (a x : Nat) (w : World) (ha : a < 4294967296) (hx : x < 256) :
    Calls Try.prog 21 #[.int .u32 a, .int .u8 x] w fun e w' => e = .returned (.int .u32 (crcByte a x : Nat)) ∧ Grew w w' := by
  have hX := bits_xor_u32_n a x ha (by omega)
  have H := fun w => Lib.hid (sums_shifted (a ^^^ x) w (Nat.xor_lt_two_pow (n := 32) ha (by omega)))
  have E : Hid (shN 8 (a ^^^ x) = crcByte a x) := Lib.hid rfl
  rw [E.out] at H
  generalize a ^^^ x = y at *
  go_enter Try.func21, Try.ntmps21
  go_wp2_with (go_at_call 22; first | rw [hX] | skip; refine (H _).out.mono ?_; rintro e w' ⟨rfl, rfl⟩)
  go_ret
  exact ⟨rfl, Grew.refl _⟩

theorem not_u32 (n : Nat) (h : n < 4294967296) : bits BinOp.xor IntKind.u32 IntKind.u32.max (n : Int) = ((4294967295 - n : Nat) : Int) := by
  rw [show IntKind.u32.max = ((4294967295 : Nat) : Int) from rfl, bits_xor_u32_n _ _ (by omega) h]
  have e := crc_ones n h
  have : 4294967295 ^^^ n = 4294967295 - n := by
    calc 4294967295 ^^^ n = (n ^^^ (4294967295 - n)) ^^^ n := by rw [e]
      _ = 4294967295 - n := by rw [Nat.xor_comm n, Nat.xor_assoc, Nat.xor_self, Nat.xor_zero]
  rw [this]
theorem sums_CRC (v : Value) (ns : List Nat) (w : World) (h : Row .u8 w v ns) (hB : Bytes ns) (hl : ns.length ≤ 5000) :
    Calls Try.prog 12 #[v] w fun e w' => e = .returned (.int .u32 (crcOf ns : Nat)) ∧ Grew w w' := by
  have H := Lib.hid (through_u32 21 v ns 4294967295 crcByte (fun a => a < 4294967296) w h hB hl (fun _ _ => rfl) (by decide) (fun a x w' ha hx => (crc_one a x w' ha hx).mono fun e w'' ⟨he, hg⟩ => ⟨he, hg, crcByte_lt _ _ ha hx⟩))
  have hlt := crcReg_lt ns hB ns.length
  obtain ⟨n, hn⟩ : ∃ n, crcReg ns ns.length = n := ⟨_, rfl⟩
  have E : Hid (run crcByte 4294967295 ns ns.length = n) := hn
  have HE : Hid (4294967295 - n = crcOf ns) := by show _ = _; rw [← hn]; rfl
  rw [E.out] at H
  rw [hn] at hlt
  have HN := Lib.hid (not_u32 n hlt)
  clear E hn h
  go_enter Try.func12, Try.ntmps12
  go_wp2_with (go_at_call 20; refine H.out.mono ?_; rintro e w' ⟨rfl, g1⟩)
  go_ret
  exact ⟨ret_int (by rw [← HE.out]; exact HN.out), g1⟩

end Go.Proofs.Ytjgmlfglfpihjaa
