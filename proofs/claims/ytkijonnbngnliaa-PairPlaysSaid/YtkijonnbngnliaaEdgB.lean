/-
  The program's log of edges: the last one, one more.
-/
import Derived.Test.YtkijonnbngnliaaEdgA
import Derived.Deep.RegionHeld3
import Derived.Deep.MidRow
import Derived.Deep.CutBlock
import Derived.Deep.DeepCutAuto
namespace Go.Proofs.Ytkijonnbngnliaa
open Go.RowKit
set_option linter.unusedVariables false

-- [LAST
theorem edge_Last (w : World) (g o : Nat) (ks : Nat → Int) (f n : Nat) (h : LogAt w g o ks f n) :
    Calls Try.prog 29 #[.pointer (some ⟨g, o, none⟩)] w fun e w' => e = .returned (.tuple #[.int .i64 (lastE (logL ks f n)), .bool (decide (0 < n))]) ∧ Grew w w' := by
  have HM := Lib.hid (edge_isMade w g o ks f n h)
  have HP := fun (i : Int) (hi : 0 ≤ i ∧ i ≤ 8) w' (G : Grew w w') => Lib.hid (edge_place w' g o ks f n i (h.grew G) hi)
  have HH := Lib.hid h
  have lt := h.lt
  have c10 := h.c10
  have hn := h.hn
  have hf := h.hf
  have hll := logL_length ks f n
  clear h
  unfold lastE
  rw [hll]
  by_cases h0 : n = 0
  · subst h0
    go_enter Try.func29, Try.ntmps29
    go_wp2_with (go_at_call 26; refine HM.out.mono ?_; rintro e w1 ⟨rfl, hw1⟩; subst hw1)
    refine bodyPost_ret (by simp [results, Try.results29, go_sem]; try rfl) rfl ?_
    first | exact ⟨rfl, Grew.refl _⟩ | exact ⟨rfl, (Grew.refl _).drewN _⟩
  · rw [if_neg h0, logL_zi ks f n (n - 1) (by omega), decide_eq_true (by omega : 0 < n)]
    have hz : ((n : Int) == 0) = false := by rw [beq_eq_false_iff_ne]; omega
    have e1 : IntKind.i64.wrap ((n : Int) - 1) = (n : Int) - 1 := IntWalk.i64_in _ (by omega)
    have hm : (f + (n - 1)) % 8 < 8 := Nat.mod_lt _ (by omega)
    have et : ((n : Int) - 1).toNat = n - 1 := by omega
    have HQ := HP ((n : Int) - 1) (by omega)
    rw [et] at HQ
    clear HP hf hll et
    generalize (f + (n - 1)) % 8 = m at *
    have c9 := HH.out.ca m hm
    have KC := Lib.hid (fun w' (G : Grew w w') => (⟨(HH.out.grew G).ca m hm, Nat.lt_of_lt_of_le lt G.size⟩ : w'.cell? ⟨g, o + 1 + m, none⟩ = some (.int .i64 (ks m)) ∧ g < w'.heap.size))
    have m1 : (m : Int) < 8 := by omega
    clear HH
    go_enter Try.func29, Try.ntmps29
    go_upto_region 3 with (go_at_call 26; refine HM.out.mono ?_; rintro e w1 ⟨rfl, hw1⟩; subst hw1)
    go_quiet (first | (go_at_call 31; exact Calls.quiet_of_same ((HQ _ ((Grew.refl _).drewN _)).out.mono fun _ _ h => ⟨h.1, h.2.symm⟩)))
    go_wp2_with fail
    refine bodyPost_ret (by simp [results, Try.results29, go_sem]; try rfl) rfl ?_
    first | exact ⟨rfl, Grew.refl _⟩ | exact ⟨rfl, (Grew.refl _).drewN _⟩
theorem edge_Last_none (w : World) :
    Calls Try.prog 29 #[.pointer none] w fun e w' => e = .returned (.tuple #[.int .i64 0, .bool false]) ∧ Grew w w' := by
  have HM := Lib.hid (edge_isMade_none w)
  go_enter Try.func29, Try.ntmps29
  go_wp2_with (go_at_call 26; refine HM.out.mono ?_; rintro e w1 ⟨rfl, hw1⟩; subst hw1)
  refine bodyPost_ret (by simp [results, Try.results29, go_sem]; try rfl) rfl ?_
  exact ⟨rfl, Grew.refl _⟩
-- LAST]
-- [ADD
theorem edge_Add (w : World) (g o : Nat) (ks : Nat → Int) (f n : Nat) (c : Int) (h : LogAt w g o ks f n) (hc : -9223372036854775808 ≤ c ∧ c ≤ 9223372036854775807) :
    Calls Try.prog 27 #[.pointer (some ⟨g, o, none⟩), .int .i64 c] w fun e w' => e = .returned (.int .i64 (if c < lastE (logL ks f n) then 2 else 0)) ∧ Far (fun b => b = g) w w' ∧ ∃ ks' f' n', LogAt w' g o ks' f' n' ∧ logL ks' f' n' = addE (logL ks f n) c := by
  have HM := Lib.hid (edge_isMade w g o ks f n h)
  have HL := Lib.hid (edge_Last w g o ks f n h)
  have HP := fun (i : Int) (hi : 0 ≤ i ∧ i ≤ 8) w' (G : Grew w w') => Lib.hid (edge_place w' g o ks f n i (h.grew G) hi)
  have HH := Lib.hid h
  have lt := h.lt
  have hn := h.hn
  have hf := h.hf
  clear h
  unfold addE
  obtain ⟨L, hL⟩ : ∃ L, lastE (logL ks f n) = L := ⟨_, rfl⟩
  rw [hL] at HL ⊢
  clear hL
  obtain ⟨z, hz⟩ : ∃ z, decide (0 < n) = z := ⟨_, rfl⟩
  rw [hz] at HL
  clear hz
  by_cases hlt : c < L
  · rw [if_pos hlt, if_pos hlt]
    go_enter Try.func27, Try.ntmps27
    go_wp2_with (first | (go_at_call 26; refine HM.out.mono ?_; rintro e w1 ⟨rfl, hw1⟩; subst hw1) | (go_at_call 29; refine HL.out.mono ?_; rintro e w2 ⟨rfl, g2⟩))
    go_ret
    exact ⟨rfl, Far.of_grew g2, ks, f, n, HH.out.grew g2, rfl⟩
  · rw [if_neg hlt, if_neg hlt]
    have HQ := HP (n : Int) (by omega)
    rw [Int.toNat_natCast] at HQ
    clear HP
    go_enter Try.func27, Try.ntmps27
    go_upto_region 6 with (first | (go_at_call 26; refine HM.out.mono ?_; rintro e w1 ⟨rfl, hw1⟩; subst hw1) | (go_at_call 29; refine HL.out.mono ?_; rintro e w2 ⟨rfl, g2⟩))
    have HW := Lib.hid (HH.out.grew g2)
    have FW := Lib.hid (Far.of_grew (F := fun b => b = g) g2)
    have HR := fun w' (G : Grew w2 w') => HQ w' (g2.trans G)
    have lt2 : g < w2.heap.size := HW.out.lt
    have hm : (f + n) % 8 < 8 := Nat.mod_lt _ (by omega)
    have hroom := Lib.hid (fun (h : n < 8) => log_room ks f n c h)
    have hfull := Lib.hid (fun (h : n = 8) => (by subst h; exact log_full ks f c hf : logL (setE ks ((f + n) % 8) c) ((f + 1) % 8) n = pushE (logL ks f n) c))
    clear HQ HH HM HL lt
    generalize (f + n) % 8 = m at *
    have m1 : (m : Int) < 8 := by omega
    have KS : ∀ w', Grew w2 w' → Hid (w'.cell? ⟨g, o + 10, none⟩ = some (.int .i64 (n : Nat))) := fun w' q => Lib.hid (HW.out.grew q).c10
    have KT : ∀ w', Grew w2 w' → Hid ((w'.setCell ⟨g, o + 1 + m, none⟩ (.int .i64 c)).cell? ⟨g, o + 10, none⟩ = some (.int .i64 (n : Nat))) := fun w' q => Lib.hid ((HW.out.grew q).setK m hm c).c10
    have KX : ∀ w', Grew w2 w' → Hid (w'.cell? ⟨g, o + 1 + m, none⟩ = some (.int .i64 (ks m)) ∧ w'.frozen? ⟨g, o + 1 + m, none⟩ = false) := fun w' q => Lib.hid ⟨(HW.out.grew q).ca m hm, (HW.out.grew q).fz _⟩
    have HSET : ∀ w', Grew w2 w' → Hid (LogAt (w'.setCell ⟨g, o + 1 + m, none⟩ (.int .i64 c)) g o (setE ks m c) f n ∧ Far (fun b => b = g) w (w'.setCell ⟨g, o + 1 + m, none⟩ (.int .i64 c))) := fun w' q =>
      Lib.hid ⟨(HW.out.grew q).setK m hm c, Far.setCell (F := fun b => b = g) (FW.out.trans (Far.of_grew q)) (p := ⟨g, _, none⟩) rfl _⟩
    have G : Grew w2 w2.drew := (Grew.refl w2).drew
    go_region_held3 (fun w' => w'.cell? ⟨g, o + 10, none⟩ = some (.int .i64 (n : Nat))) (first | exact (KS _ G).out | exact (KT _ G).out) ((go_at_call 31; refine (HR _ G).out.mono ?_; rintro e w5 ⟨rfl, g5⟩; subst g5; obtain ⟨t1, f1⟩ := (KX _ G).out))
    obtain ⟨s1, s2⟩ := (HSET _ G).out
    rename_i hHeld
    rw [show w2.drew.setCell ⟨g, o + 1 + m, none⟩ (.int .i64 c) = (w2.setCell ⟨g, o + 1 + m, none⟩ (.int .i64 c)).drew from rfl] at s1 s2
    clear hHeld t1 f1 KS KT KX HSET HR G
    generalize (w2.setCell ⟨g, o + 1 + m, none⟩ (.int .i64 c)).drew = w3 at *
    have S1 := Lib.hid s1
    have S2 := Lib.hid s2
    have lt3 := s1.lt
    have c10 := s1.c10
    have z10 := s1.fz (o + 10)
    clear s1 s2
    by_cases hn8 : n < 8
    · have hn8' : (n : Int) < 8 := by omega
      have e1 : IntKind.i64.wrap ((n : Int) + 1) = ((n + 1 : Nat) : Int) := by rw [IntWalk.i64_in _ (by omega)]; omega
      go_wp2_with fail
      go_ret
      exact ⟨rfl, Far.setCell (F := fun b => b = g) S2.out (p := ⟨g, _, none⟩) rfl _, _, _, _, S1.out.setN (n + 1) (by omega), hroom.out hn8⟩
    · have hn8' : ¬ (n : Int) < 8 := by omega
      have HP1 := Lib.hid (edge_place w3 g o (setE ks m c) f n 1 S1.out (by omega))
      have z9 := S1.out.fz (o + 9)
      have c9 := S1.out.c9
      have hm9 : (f + (1 : Int).toNat) % 8 < 8 := Nat.mod_lt _ (by omega)
      have hF := Lib.hid (hfull.out (by omega))
      rw [show (f + 1) % 8 = (f + (1 : Int).toNat) % 8 from rfl] at hF
      generalize (f + (1 : Int).toNat) % 8 = m9 at *
      go_wp2_with (go_at_call 31; refine HP1.out.mono ?_; rintro e w5 ⟨rfl, g5⟩; subst g5)
      go_ret
      exact ⟨rfl, Far.setCell (F := fun b => b = g) S2.out (p := ⟨g, _, none⟩) rfl _, _, _, _, S1.out.setF m9 hm9, hF.out⟩
theorem edge_Add_none (w : World) (c : Int) :
    Calls Try.prog 27 #[.pointer none, .int .i64 c] w fun e w' => e = .returned (.int .i64 1) ∧ Grew w w' := by
  have HM := Lib.hid (edge_isMade_none w)
  go_enter Try.func27, Try.ntmps27
  go_wp2_with (go_at_call 26; refine HM.out.mono ?_; rintro e w1 ⟨rfl, hw1⟩; subst hw1)
  go_ret
  exact ⟨rfl, Grew.refl _⟩
-- ADD]
end Go.Proofs.Ytkijonnbngnliaa
