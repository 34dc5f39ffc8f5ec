/-
  The document's sentences: bytes of a body, letters, digits, commands.
-/
import Derived.Test.YtlcmjedbdopglaaDoorNopB
import Derived.Deep.QuietTactic
import Derived.BigQuiet
namespace Go.Proofs.YtlcmjedbdopglaaDoor
open Go.RowKit
set_option linter.unusedVariables false

set_option maxRecDepth 100000 in
theorem ref11_Sentence (s : ByteArray) (w : World) (hs : s.size ≤ 1000) : Calls Tryd.prog 6 #[.string s] w (SaidT (sentErr s) (sentRow s) w) := by
  by_cases h0 : s.size = 0
  · obtain rfl := size_zero h0
    go_enter Tryd.func6, Tryd.ntmps6
    go_wp2_with fail
    go_ret2
    exact saidT_none _ (Grew.refl w)
  · obtain ⟨e1, e2⟩ := sent_some h0
    rw [e1, e2]
    have HB := Lib.hid (ref08_Bytes1 (.slice (some ⟨w.heap.size, 0, none⟩) s.size (grownCap w s.size 0 5)) (nat s) (Lib.bytesWorld w 5 s) (bytes_row w _ s) (nat_bytes s) (by rw [nat_length]; omega))
    have he : ¬ (s.size : Int) = 0 := by omega
    have hc := Lib.run_convert_string_bytes (P := Tryd.prog) w 9 23 5 s Tryd.underlying9 Tryd.underlying23 Tryd.underlying5
    have hb := Lib.hid (bytes_grew w 5 s)
    go_enter Tryd.func6, Tryd.ntmps6
    go_wp2_with fail
    refine HB.out.mono ?_
    rintro e w1 ⟨v, rfl, hO, g1⟩
    replace hO := Lib.hid hO
    go_wp2_with fail
    go_ret2
    exact ⟨v, rfl, hO.out.row, hb.out.trans g1⟩

theorem ref11_Letters (k : Nat) (w : World) (hk : k < 256) : Calls Tryd.prog 20 #[.int .u8 (k : Nat)] w fun e w' => e = .returned (.string (kindText k)) ∧ w = w' := by
  have h : k = 1 ∨ k = 2 ∨ k = 3 ∨ k = 4 ∨ k = 5 ∨ k = 6 ∨ k = 7 ∨ (k = 0 ∨ 7 < k) := by omega
  rcases h with rfl | rfl | rfl | rfl | rfl | rfl | rfl | h
  case inr.inr.inr.inr.inr.inr.inr =>
    have e : kindText k = ⟨#[]⟩ := by unfold kindText; rw [if_neg (by omega), if_neg (by omega), if_neg (by omega), if_neg (by omega), if_neg (by omega), if_neg (by omega), if_neg (by omega)]
    have k1 : ¬ (k : Int) = 1 := by omega
    have k2 : ¬ (k : Int) = 2 := by omega
    have k3 : ¬ (k : Int) = 3 := by omega
    have k4 : ¬ (k : Int) = 4 := by omega
    have k5 : ¬ (k : Int) = 5 := by omega
    have k6 : ¬ (k : Int) = 6 := by omega
    have k7 : ¬ (k : Int) = 7 := by omega
    rw [e]
    clear e h
    go_enter Tryd.func20, Tryd.ntmps20
    go_wp2_with fail
    go_ret
    exact ⟨rfl, rfl⟩
  all_goals
    go_enter Tryd.func20, Tryd.ntmps20
    go_wp2_with fail
    go_ret
    exact ⟨rfl, rfl⟩

theorem ref11_may (k : Nat) (every : Int) (w : World) (hk : k < 256) (hv : -9223372036854775808 ≤ every ∧ every ≤ 9223372036854775807) :
    Calls Tryd.prog 18 #[.int .u8 (k : Nat), .int .i64 every] w fun e w' => e = .returned (.int .i64 (cmdErr k every : Nat)) ∧ Grew w w' := by
  have HL := fun w => Lib.hid (ref11_Letters k w hk)
  by_cases h7 : k = 0 ∨ 7 < k
  · have e : kindText k = ⟨#[]⟩ := by unfold kindText; rw [if_neg (by omega), if_neg (by omega), if_neg (by omega), if_neg (by omega), if_neg (by omega), if_neg (by omega), if_neg (by omega)]
    rw [cmd_none h7]
    rw [e] at HL
    go_enter Tryd.func18, Tryd.ntmps18
    go_wp2_with (go_at_call 20; refine (HL _).out.mono ?_; rintro e w1 ⟨rfl, rfl⟩)
    go_ret
    exact ⟨rfl, by repeat (first | exact Grew.refl _ | refine Grew.drew ?_)⟩
  have hk : 1 ≤ k ∧ k ≤ 7 := by omega
  have hL := kind_text k hk
  generalize kindText k = L at *
  by_cases he : every < 0 ∨ 10 < every
  · rw [cmd_arg hk he]
    rcases he with he | he
    all_goals
      go_enter Tryd.func18, Tryd.ntmps18
      go_wp2_with (go_at_call 20; refine (HL _).out.mono ?_; rintro e w1 ⟨rfl, rfl⟩)
      go_ret
      exact ⟨rfl, by repeat (first | exact Grew.refl _ | refine Grew.drew ?_)⟩
  have he : 0 ≤ every ∧ every ≤ 10 := by omega
  rw [cmd_ok hk he]
  have h0 : ¬ every < 0 := by omega
  have h1 : ¬ 10 < every := by omega
  clear he
  go_enter Tryd.func18, Tryd.ntmps18
  go_wp2_with (go_at_call 20; refine (HL _).out.mono ?_; rintro e w1 ⟨rfl, rfl⟩)
  go_ret
  exact ⟨rfl, by repeat (first | exact Grew.refl _ | refine Grew.drew ?_)⟩

/-- The document's digits: one more ahead. -/
theorem dig_more (i n : Nat) : digB (i + 1) n = (⟨#[UInt8.ofNat (48 + n / 10 ^ i % 10)]⟩ : ByteArray) ++ digB i n := by
  apply nat_ext
  unfold digB
  rw [digL_cons, nat_append]
  rfl
theorem row_byte (w : World) (x : Nat) (E : TypeId) (fr : Nat × Nat) (b : Nat) (hb : b = w.heap.size) : Row .u8 (w.alloc (.cells #[.int .u8 (x : Nat)] E fr)) (.slice (some ⟨b, 0, none⟩) 1 1) [x] := by
  subst hb
  have := row_lit w E fr [x]
  simpa using this
theorem str_one (x : Nat) : strOf [x] = ⟨#[UInt8.ofNat x]⟩ := rfl
set_option maxRecDepth 100000 in
set_option maxHeartbeats 600000 in
theorem ref11_digits (n k : Nat) (w : World) (hn : n < 1000000000) (hk : k ≤ 8) :
    Calls Tryd.prog 19 #[.int .i64 (n : Nat), .int .i64 (k : Nat)] w fun e w' => e = .returned (.string (digB k n)) ∧ Grew w w' := by
  go_enter Tryd.func19, Tryd.ntmps19
  go_wp2_with fail
  go_loopg [0, 5, 6] k (fun kx s0 s5 s6 wr => ∃ i : Nat, i + kx = k ∧ s6 = .int .i64 i ∧ s0 = .int .i64 (n / 10 ^ i : Nat) ∧ s5 = .string (digB i n) ∧ Hid (Grew w wr))
  case atStart => exact ⟨0, by omega, rfl, by simp, rfl, Lib.hid (Grew.refl _)⟩
  case round =>
    obtain ⟨i, hi, rfl, rfl, rfl, hg⟩ := hrel
    by_cases hlt : i < k
    · have hm := Lib.hid (dig_more i n)
      have hq := Lib.hid (show n / 10 ^ (i + 1) = n / 10 ^ i / 10 by rw [Nat.pow_succ, Nat.div_div_eq_div_mul])
      have hz := digB_size i n
      have hle : n / 10 ^ i ≤ n := Nat.div_le_self _ _
      generalize digB i n = T at *
      generalize n / 10 ^ i = q at *
      have hR := fun b hb => Row.string _ (row_byte wr (48 + q % 10) 5 (0, 0) b hb) 23 5 Tryd.underlying23 Tryd.underlying5 9 Tryd.underlying9
      have hR := hR _ rfl
      rw [str_one] at hR
      rw [show ((48 + q % 10 : Nat) : Int) = 48 + (q : Int) % 10 by omega] at hR
      have c1 : ¬ 9223372036854775807 < 1 + T.size := by omega
      go_wp2_with fail
      go_roundg (k - (i + 1))
      case measure => omega
      case rel => exact ⟨i + 1, by omega, by go_num, by rw [hq.out]; simp, by rw [hm.out, UInt8.ofNat_add]; rfl, Lib.hid (hg.out.alloc _)⟩
    · obtain rfl : i = k := by omega
      go_wp2_with fail
      go_ret
      exact ⟨rfl, hg.out⟩

def nm : List ByteArray := [⟨#[71, 71, 65]⟩, ⟨#[71, 76, 76]⟩, ⟨#[71, 83, 65]⟩, ⟨#[71, 83, 86]⟩, ⟨#[82, 77, 67]⟩, ⟨#[86, 84, 71]⟩, ⟨#[]⟩, ⟨#[]⟩, ⟨#[90, 68, 65]⟩]
theorem nm_eq (k i : Nat) (hk : 1 ≤ k ∧ k ≤ 7) (hi : i < 9) : ((nm.getD i ⟨#[]⟩).toList == (kindText k).toList) = decide (i = kindNum k) := by
  have : ∀ (i : Fin 9) (k : Fin 8), 1 ≤ k.val → ((nm.getD i.val ⟨#[]⟩).toList == (kindText k.val).toList) = decide (i.val = kindNum k.val) := by decide +kernel
  exact this ⟨i, hi⟩ ⟨k, by omega⟩ hk.1
theorem nm_new (w : World) (E : TypeId) : ∃ W, w.alloc (.cells #[.string ⟨#[71, 71, 65]⟩, .string ⟨#[71, 76, 76]⟩, .string ⟨#[71, 83, 65]⟩, .string ⟨#[71, 83, 86]⟩, .string ⟨#[82, 77, 67]⟩, .string ⟨#[86, 84, 71]⟩, .string ⟨#[]⟩, .string ⟨#[]⟩, .string ⟨#[90, 68, 65]⟩] E) = W ∧ Grew w W ∧ w.heap.size < W.heap.size ∧ ∀ i, i < 9 → W.cell? ⟨w.heap.size, i, none⟩ = some (.string (nm.getD i ⟨#[]⟩)) := by
  refine ⟨_, rfl, (Grew.refl w).alloc _, by simp, fun i hi => ?_⟩
  rcases (show i = 0 ∨ i = 1 ∨ i = 2 ∨ i = 3 ∨ i = 4 ∨ i = 5 ∨ i = 6 ∨ i = 7 ∨ i = 8 by omega) with rfl | rfl | rfl | rfl | rfl | rfl | rfl | rfl | rfl <;> simp [go_sem, nm]
set_option maxHeartbeats 600000 in
set_option maxRecDepth 100000 in
theorem ref11_number (k : Nat) (w : World) (hk : 1 ≤ k ∧ k ≤ 7) : Calls Tryd.prog 21 #[.int .u8 (k : Nat)] w fun e w' => e = .returned (.int .i64 (kindNum k : Nat)) ∧ Grew w w' := by
  have HL := fun w => Lib.hid (ref11_Letters k w (by omega))
  have hE := fun i hi => nm_eq k i hk hi
  have hm := kindNum_lt k
  have h9 : kindNum k < 9 := by
    have : ∀ k : Fin 8, kindNum k.val < 9 := by decide
    exact this ⟨k, by omega⟩
  generalize kindText k = L at *
  generalize kindNum k = m at *
  replace hE := Lib.hid hE
  go_enter Tryd.func21, Tryd.ntmps21
  go_upto_region 2 with fail
  obtain ⟨W, hW, gW, hl, hc⟩ := nm_new w 9
  rw [hW]
  clear hW
  have HC := Lib.hid hc
  have HG := Lib.hid gW
  clear hc gW
  go_wp2_with fail
  go_loopg [4] 9 (fun kx s4 wr => ∃ i : Nat, i + kx = 9 ∧ s4 = .int .i64 i ∧ i ≤ m ∧ Hid (Grew W wr))
  case atStart => exact ⟨0, by omega, rfl, by omega, Lib.hid (Grew.refl _)⟩
  case round =>
    obtain ⟨i, hi, rfl, him, hg⟩ := hrel
    have c0 : (i : Int) < 9 := by omega
    have hx : wr.cell? ⟨w.heap.size, i, none⟩ = some (.string (nm.getD i ⟨#[]⟩)) := (hg.out.cell (by exact hl)).trans (HC.out i (by omega))
    have hq := hE.out i (by omega)
    generalize nm.getD i ⟨#[]⟩ = N at *
    by_cases he : i = m
    · subst he
      rw [decide_eq_true rfl] at hq
      go_wp2_with fail
      go_quiet (first | (go_at_call 20; exact Calls.quiet_of_same ((HL _).out.mono fun _ _ h => ⟨h.1, h.2.symm⟩)))
      go_wp2_with fail
      go_ret
      exact ⟨rfl, (HG.out.trans hg.out).drewN _⟩
    · rw [decide_eq_false he] at hq
      go_wp2_with fail
      go_quiet (first | (go_at_call 20; exact Calls.quiet_of_same ((HL _).out.mono fun _ _ h => ⟨h.1, h.2.symm⟩)))
      go_wp2_with fail
      go_roundg (9 - (i + 1))
      case measure => omega
      case rel => exact ⟨i + 1, by omega, by go_num, by omega, Lib.hid (hg.out.drewN _)⟩
end Go.Proofs.YtlcmjedbdopglaaDoor
