/-
  The laws of sentences that are written: a sentence's bytes, taken out of a ring.
-/
import Derived.Test.YtlcmjedbdopglaaGreatDoorNopB
import Derived.Test.YtlcmjedbdopglaaGreatDoorFrmP
import Derived.Test.YtlcmjedbdopglaaGreatDoorRngJ
import Derived.Deep.RegionHeld3
import Derived.Deep.QuietTactic
import Derived.BigQuiet
namespace Go.Proofs.YtlcmjedbdopglaaGreatDoor
open Go.RowKit
set_option linter.unusedVariables false

/-- A new frame's variable. -/
theorem frame_new (w : World) (x y : Value) (E : TypeId) : ∃ W, w.alloc (.cells #[x, y] E) = W ∧ Grew w W ∧ w.heap.size < W.heap.size ∧ W.cell? ⟨w.heap.size, 0, none⟩ = some x ∧ W.cell? ⟨w.heap.size, 1, none⟩ = some y :=
  ⟨_, rfl, (Grew.refl _).alloc _, by simp, by simp [go_sem], by simp [go_sem]⟩
set_option maxRecDepth 100000 in
set_option maxHeartbeats 2000000 in
theorem law_body (v : Value) (L ns L2 : List Nat) (k d : Nat) (ok : Bool) (o : Option (Nat × List Nat)) (w : World) (hr : Row .u8 w v L) (hB : Bytes L) (hl : L.length ≤ 4096) (hN : nextOf 4096 L = (o, d, L2)) (ho : frameOf o = (k, ns)) (hs : o.isSome = ok)
    (hc : (ok = true ∧ d = 0 ∧ L2 = [] ∧ k = 1) ∨ ok = false) :
    Calls Tryz.prog 7 #[v] w fun e w' => e = .returned (.tuple #[.string (strOf ns), .bool ok]) ∧ Grew w w' := by
  have P := ring_calls
  have Q := frame_calls
  have HRW := Lib.hid hr
  have H0 := Lib.hid (P.new 4096 w (by omega) (by omega) trivial)
  clear hr
  go_enter Tryz.func7, Tryz.ntmps7
  go_wp2_with fail
  refine H0.out.mono ?_
  rintro e w1 ⟨g, F, rfl, hR, hF, g1⟩
  have h1 := P.put w1 _ F 4096 [] 0 v L hR (HRW.out.grew g1) hB (by omega) (by omega) (fun hn k hk hFk => by have := hF k hFk; have := HRW.out.lt hn k hk; omega) trivial
  have e1 : ringOver 4096 [] L = 0 := by unfold ringOver; simp; omega
  have e2 : ringPut 4096 [] L = L := by unfold ringPut; rw [e1]; simp
  rw [e1, e2] at h1
  have H1 := Lib.hid h1
  have HF := Lib.hid hF
  have G1 := Lib.hid g1
  clear h1 e1 e2 hR hF g1 H0
  go_wp2_with fail
  refine H1.out.mono ?_
  clear H1
  rintro e w2 ⟨F2, rfl, hR, hF2, far2⟩
  have G2 := Lib.hid (far2.grew G1.out (fun k hk => HF.out k hk))
  have HF2 : Hid (∀ b, F2 b → w.heap.size ≤ b) := fun b hb => by
    rcases hF2 b hb with h | h
    · exact HF.out b h
    · exact Nat.le_trans G1.out.size h
  have H2 := Lib.hid (next_is Q hR (by omega) trivial hN ho hs)
  clear hR hF2 far2 HF G1 hN ho hs
  go_upto_region 4 with (go_at_call 17; refine H2.out.mono ?_; rintro e w3 ⟨F3, A, c, rfl, hrow, hk, hown, hR3, hF3, far3⟩)
  have G3 := Lib.hid (far3.grew G2.out (fun k hk => HF2.out k hk))
  obtain ⟨W, hW, gW, hl2, x0, x1⟩ := frame_new w3 (.int .u8 (k : Nat)) (.slice A ns.length c) 51
  first | rw [hW] | skip
  have HL := Lib.hid (fun w' (g : Grew W w') => P.len w' _ F3 4096 L2 _ (P.grew hR3 (gW.trans g)) trivial)
  have KS : ∀ w', Grew W w' → w'.cell? ⟨w3.heap.size, 0, none⟩ = some (.int .u8 (k : Nat)) ∧ w'.cell? ⟨w3.heap.size, 1, none⟩ = some (.slice A ns.length c) ∧ (convert 22 9 (.slice A ns.length c)).run Tryz.prog w' = .ok (.string (strOf ns)) w' := fun w' g =>
    ⟨(g.cell (p := ⟨w3.heap.size, 0, none⟩) hl2).trans x0, (g.cell (p := ⟨w3.heap.size, 1, none⟩) hl2).trans x1, Row.string w' (hrow.grew (gW.trans g)) 22 5 Tryz.underlying22 Tryz.underlying5 9 Tryz.underlying9⟩
  have HE := Lib.hid (G3.out.trans gW)
  have GW := Lib.hid (Grew.refl W)
  clear H2 HF2 hown hR3 hF3 far3 hrow G2 G3 gW x0 x1
  obtain ⟨Z, hZ⟩ : ∃ Z, Hid (strOf ns = Z) := ⟨_, Lib.hid rfl⟩
  rw [hZ.out] at KS
  rcases hc with ⟨rfl, rfl, rfl, rfl⟩ | rfl
  · go_region_held3 (fun w' => w'.cell? ⟨w3.heap.size, 0, none⟩ = some (.int .u8 ((1 : Nat) : Int)) ∧ w'.cell? ⟨w3.heap.size, 1, none⟩ = some (.slice A ns.length c) ∧ (convert 22 9 (.slice A ns.length c)).run Tryz.prog w' = .ok (.string Z) w') (exact KS _ (by repeat (first | (with_reducible exact GW.out) | (with_reducible refine Grew.drew ?_))))
      (first | (go_at_call 18; refine (HL.out _ (by repeat (first | (with_reducible exact GW.out) | (with_reducible refine Grew.drew ?_)))).mono ?_; rintro e w4 ⟨rfl, g4⟩; replace GW := Lib.hid (Grew.trans (a := W) (by repeat (first | (with_reducible exact GW.out) | (with_reducible refine Grew.drew ?_))) g4)))
    all_goals
      go_wp2_with fail
      go_ret2
      exact ⟨by rw [hZ.out]; rfl, HE.out.trans GW.out⟩
  · have KD := fun n => KS (W.drewN n) ((Grew.refl W).drewN n)
    obtain ⟨x0, x1, x2⟩ := KS W (Grew.refl W)
    go_quiet (fail)
    go_wp2_with fail
    go_ret2
    exact ⟨by rw [hZ.out]; rfl, HE.out.trans ((Grew.refl W).drewN _)⟩

theorem str_nat (s : ByteArray) : strOf (nat s) = s := by
  apply nat_ext
  unfold strOf strOfNums
  rw [nat_mk]
  refine List.ext_getElem (by simp) fun i h1 h2 => ?_
  have := nat_lt s i
  rw [wd_lt h2] at this
  simp only [List.getElem_map, Int.toNat_natCast]
  show (nat s)[i] % 256 = _
  exact Nat.mod_eq_of_lt this
theorem frame_row {k : Nat} {ns : List Nat} (he : frameErr k ns = 0) : frameBytes k ns = frameRow k ns := by unfold frameBytes; rw [if_pos he]
/-- A sentence's bytes are one frame, that body's; what is refused has none. -/
theorem sent_next (s : ByteArray) (h : s.size ≤ 1000) (he : sentErr s = 0) : nextOf 4096 (sentRow s) = (some (1, nat s), 0, []) := by
  have h0 : s.size ≠ 0 := fun q => by unfold sentErr at he; rw [if_pos q] at he; cases he
  obtain ⟨e1, e2⟩ := sent_some h0
  rw [e1] at he
  have hl := frame_len (k := 1) (ns := nat s)
  rw [nat_length, frame_row he] at hl
  rw [e2, frame_row he]
  have := next_whole 4096 1 (nat s) [] he (by omega)
  rwa [List.append_nil] at this
theorem sent_no (s : ByteArray) (he : sentErr s ≠ 0) : sentRow s = [] := by
  unfold sentRow
  split
  · rfl
  · rename_i h0
    rw [(sent_some h0).1] at he
    unfold frameBytes
    rw [if_neg he]
theorem sent_bytes (s : ByteArray) : Bytes (sentRow s) := by
  unfold sentRow
  split
  · exact Bytes.of_mem (by simp)
  · exact frame_bytes (nat_bytes s) (by decide)
theorem sent_len (s : ByteArray) (h : s.size ≤ 1000) : (sentRow s).length ≤ 1010 := by
  unfold sentRow
  split
  · exact Nat.zero_le _
  · have := frame_len (k := 1) (ns := nat s)
    rw [nat_length] at this
    omega
theorem body_ok11 (v : Value) (s : ByteArray) (w : World) (hr : Row .u8 w v (sentRow s)) (h : s.size ≤ 1000) (he : sentErr s = 0) :
    Calls Tryz.prog 7 #[v] w fun e w' => e = .returned (.tuple #[.string s, .bool true]) ∧ Grew w w' := by
  have := law_body v (sentRow s) (nat s) [] 1 0 true _ w hr (sent_bytes s) (by have := sent_len s h; omega) (sent_next s h he) rfl rfl (.inl ⟨rfl, rfl, rfl, rfl⟩)
  rwa [str_nat] at this
theorem body_no11 (v : Value) (w : World) (hr : Row .u8 w v []) : Calls Tryz.prog 7 #[v] w fun e w' => e = .returned (.tuple #[.string ⟨#[]⟩, .bool false]) ∧ Grew w w' :=
  law_body v [] [] [] 0 0 false none w hr (Bytes.of_mem (by simp)) (by simp) (by decide +kernel) rfl rfl (.inr rfl)

theorem known_rate : cmdErr 1 1 = 0 ∧ rateB (kindText 1) (1 : Int).toNat = ⟨#[80, 85, 66, 88, 44, 52, 48, 44, 82, 77, 67, 44, 48, 44, 49, 44, 48, 44, 48, 44, 48, 44, 48]⟩ ∧ sentErr ⟨#[80, 85, 66, 88, 44, 52, 48, 44, 82, 77, 67, 44, 48, 44, 49, 44, 48, 44, 48, 44, 48, 44, 48]⟩ = 0 :=
  ⟨rfl, by kernel_rfl, by kernel_rfl⟩
theorem known_ask : cmdErr 5 1 = 0 ∧ askB (kindNum 5) (1 : Int).toNat = ⟨#[80, 83, 82, 70, 49, 48, 51, 44, 48, 56, 44, 48, 44, 48, 49, 44, 49]⟩ ∧ sentErr ⟨#[80, 83, 82, 70, 49, 48, 51, 44, 48, 56, 44, 48, 44, 48, 49, 44, 49]⟩ = 0 :=
  ⟨rfl, by kernel_rfl, by kernel_rfl⟩
set_option maxRecDepth 100000 in
set_option maxHeartbeats 1000000 in
theorem known_11 (w : World) (ht : Tabs w) : Calls Tryz.prog 6 #[] w fun e w' => e = .returned (.bool true) ∧ Grew w w' := by
  obtain ⟨a1, a2, a3⟩ := known_rate
  obtain ⟨b1, b2, b3⟩ := known_ask
  have H1 := prog_Rate 1 1 w (by decide) (by decide) ht
  have H2 := fun w ht => prog_Ask 5 1 w (by decide) (by decide) ht
  rw [a1, a2, cmdT_ok, a3] at H1
  rw [b1, b2] at H2
  simp only [cmdT_ok] at H2
  rw [b3] at H2
  replace H1 := Lib.hid H1
  replace H2 := fun w ht => Lib.hid (H2 w ht)
  have B1 := fun v w hr => Lib.hid (body_ok11 v _ w hr (by decide) a3)
  have B2 := fun v w hr => Lib.hid (body_ok11 v _ w hr (by decide) b3)
  generalize hL1 : sentRow ⟨#[80, 85, 66, 88, 44, 52, 48, 44, 82, 77, 67, 44, 48, 44, 49, 44, 48, 44, 48, 44, 48, 44, 48]⟩ = L1 at *
  generalize hL2 : sentRow ⟨#[80, 83, 82, 70, 49, 48, 51, 44, 48, 56, 44, 48, 44, 48, 49, 44, 49]⟩ = L2 at *
  have HT := Lib.hid ht
  clear a1 a2 a3 b1 b2 b3 hL1 hL2 ht
  go_enter Tryz.func6, Tryz.ntmps6
  go_wp2_with fail
  refine H1.out.mono ?_
  rintro e w1 ⟨v1, rfl, r1, g1⟩
  have R1 := Lib.hid r1
  clear r1
  go_wp2_with fail
  refine (H2 w1 (HT.out.grew g1)).out.mono ?_
  rintro e w2 ⟨v2, rfl, r2, g2⟩
  have R2 := Lib.hid r2
  clear r2
  go_wp2_with fail
  refine (B1 _ _ (R1.out.grew g2)).out.mono ?_
  rintro e w3 ⟨rfl, g3⟩
  go_wp2_with fail
  refine (B2 _ _ (R2.out.grew g3)).out.mono ?_
  rintro e w4 ⟨rfl, g4⟩
  go_wp2_with fail
  go_ret
  exact ⟨rfl, ((g1.trans g2).trans g3).trans g4⟩
end Go.Proofs.YtlcmjedbdopglaaGreatDoor
