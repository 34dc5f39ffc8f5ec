/-
  The program's log of edges: each edge handed on; all of them; how many are within bounds; a copy; a new one.
-/
import Derived.Test.YtkijonnbngnliaaEdgB
namespace Go.Proofs.Ytkijonnbngnliaa
open Go.RowKit
set_option linter.unusedVariables false

-- [EACH
set_option maxRecDepth 100000 in
theorem edge_each (fn : Nat) (cb : Array Value) (M : Nat → World → Prop) (w : World) (g o : Nat) (ks : Nat → Int) (f n : Nat) (eg : ∀ args w, (callFunc fn args).run Try.prog w = .ok (.enter fn args) w)
    (h0 : M 0 w) (hL : ∀ i w', M i w' → LogAt w' g o ks f n) (hM : ∀ i w' w'', M i w' → Grew w' w'' → M i w'')
    (hf : ∀ i w', i < n → M i w' → Calls Try.prog fn (#[.int .i64 (zi (logL ks f n) i)] ++ cb) w' fun e w'' => e = .returned (.tuple #[]) ∧ M (i + 1) w'') :
    Calls Try.prog 32 #[.pointer (some ⟨g, o, none⟩), .func (.func fn) #[] cb] w fun e w' => e = .returned (.tuple #[]) ∧ M n w' := by
  have HF : Hid _ := hf
  have HL : Hid _ := hL
  have HX : Hid _ := hM
  have H0 := Lib.hid h0
  have hl := hL 0 w h0
  have HM := Lib.hid (edge_isMade w g o ks f n hl)
  have lt := hl.lt
  have hn := hl.hn
  have hff := hl.hf
  have c10 := hl.c10
  clear hf hL hM h0 hl
  go_enter Try.func32, Try.ntmps32
  go_wp2_with (go_at_call 26; refine HM.out.mono ?_; rintro e w1 ⟨rfl, hw1⟩; subst hw1)
  go_loopw [12] (fun i wr => ∃ k : Nat, k ≤ n ∧ i = .int .i64 (k : Nat) ∧ Hid (M k wr)) (fun i _ => n - (intOf i).toNat)
  case atStart => exact ⟨0, Nat.zero_le _, rfl, H0⟩
  case round =>
    obtain ⟨k, hk, rfl, hm⟩ := hrel
    by_cases hlt : k < n
    · have hlk := HL.out k wr hm.out
      have HK := Lib.hid hlk
      have HP := fun w' (G : Grew wr w') => Lib.hid (edge_place w' g o ks f n k (hlk.grew G) (by omega))
      rw [Int.toNat_natCast] at HP
      have hz := logL_zi ks f n k hlt
      have HC := fun w' (G : Grew wr w') => Lib.hid (HF.out k w' hlt (HX.out k wr w' hm.out G))
      rw [hz] at HC
      have hmm : (f + k) % 8 < 8 := Nat.mod_lt _ (by omega)
      have ltr := hlk.lt
      clear hlk hz hff c10 lt
      generalize (f + k) % 8 = m at *
      have KS : ∀ w', Grew wr w' → Hid (w'.cell? ⟨g, o + 1 + m, none⟩ = some (.int .i64 (ks m))) := fun w' q => Lib.hid ((HK.out.grew q).ca m hmm)
      have KM : ∀ w', M (k + 1) w' → Hid (w'.cell? ⟨g, o + 1 + m, none⟩ = some (.int .i64 (ks m))) := fun w' q => Lib.hid ((HL.out _ _ q).ca m hmm)
      have m1 : (m : Int) < 8 := by omega
      have hki : (k : Int) < n := by omega
      have e1 : IntKind.i64.wrap ((k : Int) + 1) = ((k + 1 : Nat) : Int) := by rw [IntWalk.i64_in _ (by omega)]; omega
      clear HL HF HX HK hm
      go_upto_region 4 with fail
      have G : Grew wr wr.drew := (Grew.refl wr).drew
      go_region_held3 (fun w' => w'.cell? ⟨g, o + 1 + m, none⟩ = some (.int .i64 (ks m))) (first | exact (KS _ G).out | exact (KM _ (by assumption)).out) ((first | (go_at_call 31; refine (HP _ G).out.mono ?_; rintro e w5 ⟨rfl, g5⟩; subst g5) | (go_at_fn fn; refine (HC _ G).out.mono ?_; rintro e w6 ⟨rfl, g6⟩)))
      have G6 := Lib.hid g6
      rename_i hHeld
      clear hHeld g6 KS KM HP HC
      go_wp2_with fail
      go_roundw
      case rel => exact ⟨k + 1, by omega, by first | rfl | go_num, G6⟩
      case measure => simp [intOf]; omega
    · obtain rfl : k = n := by omega
      go_wp2_with fail
      exact bodyPost_end (results_none Try.results32 _ _ _) rfl ⟨rfl, hm.out⟩
theorem edge_each_none (w : World) (v : Value) :
    Calls Try.prog 32 #[.pointer none, v] w fun e w' => e = .returned (.tuple #[]) ∧ Grew w w' := by
  have HM := Lib.hid (edge_isMade_none w)
  go_enter Try.func32, Try.ntmps32
  go_wp2_with (go_at_call 26; refine HM.out.mono ?_; rintro e w1 ⟨rfl, hw1⟩; subst hw1)
  exact bodyPost_ret (results_none Try.results32 _ _ _) rfl ⟨rfl, Grew.refl _⟩
-- EACH]
theorem infoE64 : (Try.prog.info? 2).map (fun i => (i.zero, i.size, i.bytes)) = some (some (.int .i64 0), 1, 8) := by kernel_rfl
theorem far_ofGrown {w w' : World} {o : Option Nat} (h : w.grownBy w' o) : Far (fun b => o = some b) w w' :=
  ⟨h.os, h.tape, h.output, h.size, fun k hk hF => h.block k hk (fun e => hF e.symm)⟩
theorem OwnZ.low {B B' : Nat} {E : TypeId} {k : IntKind} {w : World} {v : Value} {zs : List Int} (h : OwnZ B E k w v zs) (hb : B' ≤ B) : OwnZ B' E k w v zs := by
  obtain ⟨h1, h2⟩ := h
  refine ⟨h1, ?_⟩
  rcases h2 with q | ⟨b, cap, cur, e, hb, r⟩
  · exact .inl q
  · exact .inr ⟨b, cap, cur, e, by omega, r⟩
-- [ALL
/-- What stands behind so many edges that All's closure was handed. -/
structure AllM (g o : Nat) (ks : Nat → Int) (f n : Nat) (w : World) (U : Nat) (i : Nat) (w' : World) : Prop where
  log : LogAt w' g o ks f n
  row : ∃ v, w'.cell? ⟨U, 0, none⟩ = some v ∧ OwnZ (U + 1) 2 .i64 w' v ((logL ks f n).take i)
  fz : w'.frozen? ⟨U, 0, none⟩ = false
  lt : U < w'.heap.size
  gr : Grew w w'
theorem take_nextZ (L : List Int) (i : Nat) (h : i < L.length) : L.take i ++ [zi L i] = L.take (i + 1) := by
  rw [List.take_succ_eq_append_getElem h, zi_lt h]
/-- What stands behind so many edges that Count's closure was handed. -/
structure CntM (g o : Nat) (ks : Nat → Int) (f n : Nat) (a b : Int) (w : World) (A B U : Nat) (i : Nat) (w' : World) : Prop where
  log : LogAt w' g o ks f n
  ca : w'.cell? ⟨A, 0, none⟩ = some (.int .i64 a)
  cb : w'.cell? ⟨B, 0, none⟩ = some (.int .i64 b)
  cn : w'.cell? ⟨U, 0, none⟩ = some (.int .i64 (cntE (logL ks f n) a b i : Nat))
  fz : w'.frozen? ⟨U, 0, none⟩ = false
  lt : A < U ∧ B < U ∧ U < w'.heap.size
  gr : Grew w w'
set_option maxRecDepth 100000 in
theorem edge_Count1 (g o : Nat) (ks : Nat → Int) (f n : Nat) (a b : Int) (w : World) (A B U i : Nat) (hU : w.heap.size ≤ U) (hgU : g < U) (hi : i < n) (w' : World) (h : CntM g o ks f n a b w A B U i w') :
    Calls Try.prog 33 #[.int .i64 (zi (logL ks f n) i), .pointer (some ⟨A, 0, none⟩), .pointer (some ⟨B, 0, none⟩), .pointer (some ⟨U, 0, none⟩)] w' fun e w'' => e = .returned (.tuple #[]) ∧ CntM g o ks f n a b w A B U (i + 1) w'' := by
  have HH := Lib.hid h
  have HU := Lib.hid hU
  have hle := cntE_le (logL ks f n) a b i
  have hN := Lib.hid (show cntE (logL ks f n) a b (i + 1) = cntE (logL ks f n) a b i + (if a ≤ zi (logL ks f n) i ∧ zi (logL ks f n) i ≤ b then 1 else 0) from rfl)
  obtain ⟨hlog, ca, cb, cn, f0, ⟨l1, l2, l3⟩, _⟩ := h
  have hn8 := hlog.hn
  clear hU hlog
  have HS : Hid (∀ m : Nat, cntE (logL ks f n) a b (i + 1) = m → ∀ u, u = Value.int .i64 (m : Nat) → CntM g o ks f n a b w A B U (i + 1) (w'.setCell ⟨U, 0, none⟩ u)) := Lib.hid (by
    rintro m hm u rfl
    have FU := Far.one w' ⟨U, 0, none⟩ (.int .i64 (m : Nat))
    refine ⟨HH.out.log.far FU (fun e => by simp only at e; omega), (FU.cell (p := ⟨A, 0, none⟩) (by simp only; omega) (by simp only; omega)).trans ca, (FU.cell (p := ⟨B, 0, none⟩) (by simp only; omega) (by simp only; omega)).trans cb, ?_, by simpa [go_sem] using f0, ⟨l1, l2, by simpa [World.setCell] using l3⟩, FU.grew HH.out.gr (fun b e => by have := HU.out; simp only at e; omega)⟩
    rw [hm]
    exact World.cell?_setCell_same _ _ _ cn)
  have HT : Hid (cntE (logL ks f n) a b (i + 1) = cntE (logL ks f n) a b i → CntM g o ks f n a b w A B U (i + 1) w') := Lib.hid (fun q =>
    ⟨HH.out.log, ca, cb, by rw [q]; exact cn, f0, ⟨l1, l2, l3⟩, HH.out.gr⟩)
  generalize cntE (logL ks f n) a b (i + 1) = N2 at *
  generalize cntE (logL ks f n) a b i = N at *
  generalize zi (logL ks f n) i = c at *
  have e1 : IntKind.i64.wrap ((N : Int) + 1) = ((N + 1 : Nat) : Int) := by rw [IntWalk.i64_in _ (by omega)]; omega
  have lA : A < w'.heap.size := by omega
  have lB : B < w'.heap.size := by omega
  clear HH hle
  by_cases h1 : a ≤ c
  · by_cases h2 : c ≤ b
    · rw [if_pos ⟨h1, h2⟩] at hN
      go_enter Try.func33, Try.ntmps33
      go_wp2_with fail
      exact bodyPost_end (results_none Try.results33 _ _ _) rfl ⟨rfl, HS.out _ hN.out _ (by first | rfl | go_num)⟩
    · rw [if_neg (fun q => h2 q.2)] at hN
      go_enter Try.func33, Try.ntmps33
      go_wp2_with fail
      exact bodyPost_end (results_none Try.results33 _ _ _) rfl ⟨rfl, HT.out hN.out⟩
  · rw [if_neg (fun q => h1 q.1)] at hN
    go_enter Try.func33, Try.ntmps33
    go_wp2_with fail
    exact bodyPost_end (results_none Try.results33 _ _ _) rfl ⟨rfl, HT.out hN.out⟩
-- COUNT]
end Go.Proofs.Ytkijonnbngnliaa
