/-
  The walk of the law on no ring and on all frames, out of the contracts.
-/
import Derived.Test.YtkoklmecijejkaaFrmK
namespace Go.Proofs.Ytkoklmecijejkaa
open Go.RowKit
set_option linter.unusedVariables false

theorem took_zero {size : Nat} {L : List Nat} {d : Nat} {R : List Nat} (h : Took size L [] d R) : nextOf size L = (none, d, R) := by
  cases h with
  | none _ h => rw [← h]
theorem took_one {size : Nat} {L : List Nat} {x : Nat × List Nat} {fs : List (Nat × List Nat)} {d : Nat} {R : List Nat} (h : Took size L (x :: fs) d R) : ∃ d1 L2 d2, nextOf size L = (some x, d1, L2) ∧ d = d1 + d2 ∧ Took size L2 fs d2 R := by
  cases h with
  | some _ _ _ d2 _ h t => exact ⟨_, _, d2, by rw [← h], rfl, t⟩
theorem next_sum (size : Nat) (L : List Nat) : (nextOf size L).2.1 + (nextOf size L).2.2.length ≤ L.length := by
  induction L with
  | nil => simp [nextOf]
  | cons x L ih =>
    unfold nextOf
    split
    · simp
    · split
      · simp [List.length_drop]
      · simp; omega
theorem all_takeWhile (p : Nat → Bool) (L : List Nat) : (L.takeWhile p).all p = true := by
  induction L with
  | nil => rfl
  | cons x L ih =>
    rw [List.takeWhile_cons]
    split
    · rename_i h; simp only [List.all_cons, h, ih, Bool.and_self]
    · rfl
/-- A body that is there has a frame's bytes. -/
theorem body_ok {size : Nat} {L : List Nat} {k : Nat} {ns : List Nat} (h : bodyOf size L = (k, ns, true, false)) : frameErr k ns = 0 := by
  unfold bodyOf at h
  repeat' split at h
  all_goals (simp only [Prod.mk.injEq, Bool.false_eq_true, Bool.true_eq_false, and_false, false_and] at h)
  · obtain ⟨rfl, rfl, _⟩ := h
    unfold frameErr
    rw [if_pos rfl, if_neg (by assumption), if_pos (all_takeWhile _ _)]
  · obtain ⟨rfl, rfl, _⟩ := h
    unfold frameErr
    rw [if_neg (by omega), if_pos rfl, if_neg (by simp), if_neg (by simp only [List.length_cons, List.length_take, List.length_drop]; omega)]
  · obtain ⟨rfl, rfl, _⟩ := h
    unfold frameErr
    rw [if_neg (by omega), if_neg (by omega), if_pos rfl, if_neg (by simp only [List.length_take, List.length_drop]; omega)]
theorem stand_pos {size : Nat} {L : List Nat} (h : (standOf size L).1 = 1) : 0 < (standOf size L).2.2.2 := by
  rcases Nat.eq_zero_or_pos L.length with h0 | h0
  · unfold standOf at h; rw [if_pos h0] at h; cases h
  · obtain ⟨k, ns, t, r, hb⟩ : ∃ k ns t r, bodyOf size L = (k, ns, t, r) := ⟨_, _, _, _, rfl⟩
    have e := stand_eq h0 hb
    by_cases h1 : r = true
    · rw [if_pos h1] at e; rw [e] at h; simp at h
    · rw [if_neg h1] at e
      by_cases h2 : t = true ∧ common (frameBytes k ns) L = (frameBytes k ns).length
      · rw [if_pos h2] at e
        rw [e]
        have hr : r = false := by simpa using h1
        rw [h2.1, hr] at hb
        have hk := body_ok hb
        obtain ⟨x, M, hx⟩ := row_pos k ns
        simp only
        unfold frameBytes
        rw [if_pos hk, hx]; simp
      · rw [if_neg h2] at e
        split at e
        · rw [e] at h; simp at h
        · split at e <;> (rw [e] at h; simp at h)
theorem next_lt (size : Nat) (L : List Nat) {x : Nat × List Nat} (h : (nextOf size L).1 = some x) : (nextOf size L).2.1 + (nextOf size L).2.2.length < L.length := by
  induction L with
  | nil => simp [nextOf] at h
  | cons y L ih =>
    by_cases h0 : (standOf size (y :: L)).1 = 0
    · rw [next_short h0] at h; cases h
    · by_cases h1 : (standOf size (y :: L)).1 = 1
      · obtain ⟨e, hl⟩ := next_one h1
        have hp := stand_pos h1
        rw [e]
        simp only [List.length_drop, Nat.zero_add]
        simp only [List.length_cons] at hl ⊢
        omega
      · obtain ⟨e, _⟩ := next_wrong h0 h1
        rw [e] at h ⊢
        have := ih h
        simp only [List.drop_succ_cons, List.drop_zero, List.length_cons] at this ⊢
        omega
theorem took_count {size : Nat} {L : List Nat} {fs : List (Nat × List Nat)} {d : Nat} {R : List Nat} (h : Took size L fs d R) : fs.length + d + R.length ≤ L.length := by
  induction h with
  | none L h => have := next_sum size L; simp; omega
  | some L x fs d R h t ih => have := next_lt size L h; simp only [List.length_cons]; omega
theorem took_sum {size : Nat} {L : List Nat} {fs : List (Nat × List Nat)} {d : Nat} {R : List Nat} (h : Took size L fs d R) : d + R.length ≤ L.length := by
  induction h with
  | none L h => exact next_sum size L
  | some L x fs d R h t ih => have := next_sum size L; omega
theorem frames_mk {w : World} {b k n c : Nat} {A : Option Addr} {ns : List Nat} (hb : b < w.heap.size) (c0 : w.cell? ⟨b, 0, none⟩ = some (.int .u8 (k : Nat))) (c1 : w.cell? ⟨b, 1, none⟩ = some (.slice A n c)) (h : Row .u8 w (.slice A n c) ns) (hk : k < 256) : FramesAt w (.slice (some ⟨b, 0, none⟩) 1 1) [(k, ns)] := by
  refine ⟨_, 1, rfl, Nat.le_refl _, fun _ => ⟨b, 0, rfl, fun i hi => ?_⟩⟩
  obtain rfl : i = 0 := by simpa using hi
  exact ⟨.slice A n c, hb, c0, c1, h, hk⟩
theorem drop_fr {fs : List (Nat × List Nat)} {k : Nat} (h : k < fs.length) : fs.drop k = fr fs k :: fs.drop (k + 1) := by
  rw [List.drop_eq_getElem_cons h]; unfold fr; rw [List.getD_eq_getElem?_getD, List.getElem?_eq_getElem h]; rfl

section
variable {R : World → Value → (Nat → Prop) → Nat → List Nat → Nat → Prop} {T : World → Prop}
theorem next_is (Q : FrameCalls R T) {w : World} {v : Value} {F : Nat → Prop} {size lost : Nat} {L : List Nat} (hR : R w v F size L lost) (hl : lost ≤ 1000000000) (ht : T w) {k : Nat} {ns : List Nat} {ok : Bool} {d : Nat} {L2 : List Nat} {o : Option (Nat × List Nat)} (hN : nextOf size L = (o, d, L2)) (ho : frameOf o = (k, ns)) (hs : o.isSome = ok) :
    Calls Try.prog 11 #[v] w fun e w' => ∃ F' A c, e = .returned (.tuple #[.agg #[.int .u8 (k : Nat), .slice A ns.length c], .bool ok, .int .i64 (d : Nat)]) ∧ Row .u8 w' (.slice A ns.length c) ns ∧ k < 256 ∧ (0 < ns.length → ∀ b, (Value.slice A ns.length c).ownBlock = some b → w.heap.size ≤ b ∧ ¬ F' b) ∧ R w' v F' size L2 lost ∧ (∀ b, F' b → F b ∨ w.heap.size ≤ b) ∧ Far F w w' := by
  have h := Q.next w v F size L lost hR hl ht
  unfold NextTells at h
  rw [hN] at h
  simp only [ho, hs] at h
  refine h.mono ?_
  rintro e w' ⟨F', fv, rfl, hrow, rest⟩
  obtain ⟨A, c, rfl, hc⟩ := hrow.form
  exact ⟨F', A, c, rfl, hrow, rest⟩
end

set_option maxRecDepth 1000000 in
set_option maxHeartbeats 4000000 in
theorem walk_FrameNone {R : World → Value → (Nat → Prop) → Nat → List Nat → Nat → Prop} {T : World → Prop} (P : RingCalls R T) (Q : FrameCalls R T) (bv : Value) (xs : List Nat) (w : World) (ht : T w) (hR : Row .u8 w bv xs) (hB : Bytes xs) (hn : xs.length ≤ maxLen) :
    Calls Try.prog 6 #[bv] w fun e w' => e = .returned (.bool true) ∧ Grew w w' := by
  have K := Lib.hid P.keep
  have HK := fun w ht => Lib.hid (frame_known P Q w ht)
  have HRW := Lib.hid hR
  obtain ⟨A, c, rfl, hc⟩ := hR.form
  clear hR
  go_enter Try.func6, Try.ntmps6
  by_cases hbig : 3000 < xs.length
  · have c1 : (3000 : Int) < xs.length := by omega
    go_wp2_with fail
    refine (HK _ ht).out.mono ?_
    rintro e w1 ⟨rfl, g⟩
    go_wp2_with fail
    go_ret
    exact ⟨rfl, g⟩
  · have c1 : ¬ (3000 : Int) < xs.length := by omega
    have N1 := fun w ht => Lib.hid (Q.nnext w ht)
    have N2 := fun w ht => Lib.hid (Q.nall w ht)
    go_wp2_with fail
    refine (N1 _ ht).out.mono ?_
    rintro e w1 ⟨⟨k1, A1, n1, c1', rfl⟩, g1⟩
    have G1 := Lib.hid (g1.alloc (.cells #[.int .u8 k1, .slice A1 n1 c1'] 34))
    clear g1 N1
    go_wp2_with fail
    refine (N2 _ (K.out _ _ ht G1.out)).out.mono ?_
    rintro e w2 ⟨⟨A2, c2, rfl⟩, g2⟩
    have G2 := Lib.hid (G1.out.trans g2)
    clear g2 N2 G1
    have H0 := Lib.hid (P.new 4096 w2 (by omega) (by omega) (K.out _ _ ht G2.out))
    go_wp2_with fail
    refine H0.out.mono ?_
    rintro e w3 ⟨g, F, rfl, hR, hF, g3⟩
    have h1 := P.put w3 _ F 4096 [] 0 (.slice A xs.length c) xs hR ((HRW.out.grew G2.out).grew g3) hB (by omega) (by omega) (fun hn k hk hFk => by have := hF k hFk; have := HRW.out.lt hn k hk; have := G2.out.size; omega) (K.out _ _ ht (G2.out.trans g3))
    have e1 : ringOver 4096 [] xs = 0 := by unfold ringOver; simp; omega
    have e2 : ringPut 4096 [] xs = xs := by unfold ringPut; rw [e1]; simp
    rw [e1, e2] at h1
    have H1 := Lib.hid h1
    have HF := Lib.hid hF
    have G3 := Lib.hid (G2.out.trans g3)
    have F0 : Hid (∀ b, F b → w.heap.size ≤ b) := fun b hb => Nat.le_trans G2.out.size (hF b hb)
    clear h1 e1 e2 hR hF g3 H0 HF G2
    go_wp2_with fail
    refine H1.out.mono ?_
    clear H1
    rintro e w4 ⟨F4, rfl, hR, hF4, far4⟩
    have G4 := Lib.hid (far4.grew G3.out (fun k hk => F0.out k hk))
    have HR4 := Lib.hid hR
    have HF4 : Hid (∀ b, F4 b → w.heap.size ≤ b) := fun b hb => by
      rcases hF4 b hb with h | h
      · exact F0.out b h
      · exact Nat.le_trans G3.out.size h
    have H2 := Lib.hid (P.copy w4 _ F4 4096 xs _ hR (K.out _ _ ht G4.out))
    clear hR hF4 far4 F0 G3
    go_wp2_with fail
    refine H2.out.mono ?_
    clear H2
    rintro e w5 ⟨g', Fc, rfl, hRc, hFc, g5⟩
    have HRc := Lib.hid hRc
    have HFc := Lib.hid hFc
    have G5 := Lib.hid g5
    have H3 := Lib.hid (Q.all w5 _ F4 4096 xs _ (P.grew HR4.out g5) (by omega) (K.out _ _ ht (G4.out.trans g5)))
    clear hRc hFc g5
    go_wp2_with fail
    refine H3.out.mono ?_
    clear H3
    rintro e w6 ⟨F6, lv, fs, d, rest, rfl, hT, hFr, hR6, hF6, far6⟩
    have lt4 : Hid (∀ b, F4 b → b < w4.heap.size) := fun b hb => P.lt _ _ _ _ _ _ b HR4.out hb
    have G6 := Lib.hid (far6.grew (G4.out.trans G5.out) (fun k hk => HF4.out k hk))
    have HRc6 := Lib.hid (P.far _ _ _ _ _ _ _ _ HRc.out far6 (fun b hb h4 => by have := HFc.out b hb; have := lt4.out b h4; omega))
    have HR6 := Lib.hid hR6
    have hs6 := far6.size
    have hs5 := G5.out.size
    have ltc : Hid (∀ b, Fc b → b < w5.heap.size) := fun b hb => P.lt _ _ _ _ _ _ b HRc.out hb
    have HD6 : Hid (∀ b, F6 b → ¬ Fc b) := fun b hb hc => by
      have h1 := HFc.out b hc
      have h2 := ltc.out b hc
      rcases hF6 b hb with h | h
      · have := lt4.out b h; omega
      · omega
    have HFw : Hid (∀ b, Fc b → w.heap.size ≤ b) := fun b hb => by have := HFc.out b hb; have := G4.out.size; omega
    obtain ⟨A6, c6, rfl, hc6, hfr⟩ := hFr
    have HFR : Hid (FramesFrom w5.heap.size w6.heap.size w6 (.slice A6 fs.length c6) fs) := ⟨A6, c6, rfl, hc6, hfr⟩
    have HT := Lib.hid hT
    have HFb : Hid (∀ b, Fc b → b < w5.heap.size ∨ w6.heap.size ≤ b) := fun b hb => .inl (ltc.out b hb)
    have lt6 : Hid (∀ b, F6 b → b < w6.heap.size) := fun b hb => P.lt _ _ _ _ _ _ b HR6.out hb
    clear hT hfr hR6 hF6 far6 HR4 HF4 HRc HFc lt4 ltc hs6 hs5 hc6
    go_wp2_with fail
    have hd0 : d ≤ 3000 := by have := took_sum HT.out; omega
    have hfl : fs.length ≤ 3000 := by have := took_count HT.out; omega
    go_loopw [12, 59] (fun v i wr => ∃ (k d' l : Nat) (L' : List Nat) (Fk : Nat → Prop), k ≤ fs.length ∧ i = .int .i64 k ∧ v = .int .i64 d' ∧ d' ≤ 3000 ∧ l ≤ 1000000000 ∧ Hid (Took 4096 L' (fs.drop k) d' rest) ∧ Hid (R wr (.pointer (some ⟨g', 0, none⟩)) Fk 4096 L' l) ∧ Hid (R wr (.pointer (some ⟨g, 0, none⟩)) F6 4096 rest 0) ∧ Hid (∀ b, F6 b → ¬ Fk b) ∧ Hid (∀ b, Fk b → w.heap.size ≤ b) ∧ Hid (∀ b, Fk b → b < w5.heap.size ∨ w6.heap.size ≤ b) ∧ Hid (FramesFrom w5.heap.size w6.heap.size wr (.slice A6 fs.length c6) fs) ∧ w6.heap.size ≤ wr.heap.size ∧ Hid (Grew w wr)) (fun _ i _ => fs.length - (intOf i).toNat)
    case atStart => exact ⟨0, d, _, xs, Fc, by omega, rfl, rfl, hd0, by omega, HT.out, HRc6.out, HR6.out, HD6.out, HFw.out, HFb.out, HFR.out, Nat.le_refl _, G6.out⟩
    case round =>
      clear HT HRc6 HR6 HD6 HFw HFb HFR hd0
      obtain ⟨k, d', l, L', Fk, hk, rfl, rfl, hd, hl, HT, HRk, HR6, HDk, HFw, HFb, HFR, hs, HG⟩ := hrel
      by_cases hk2 : k < fs.length
      · obtain ⟨A', c', e, _, hf⟩ := HFR.out
        cases e
        obtain ⟨b, o, rfl, hbB, hfi⟩ := hf (by omega)
        obtain ⟨fv, hF, hown⟩ := hfi k hk2
        have hT := HT.out
        rw [drop_fr hk2] at hT
        obtain ⟨d1, L2, d2, hN, hdd, hT2⟩ := took_one hT
        have HF := Lib.hid hF
        obtain ⟨kk, ns, hx⟩ : ∃ kk ns, fr fs k = (kk, ns) := ⟨_, _, rfl⟩
        rw [hx] at HF hN hown
        have y0 := HF.out.c0
        have y1 := HF.out.c1
        obtain ⟨Af, cf, rfl, hcf⟩ := HF.out.row.form
        simp only at y0 y1
        have HOWN := Lib.hid hown
        subst hdd
        have HT2 := Lib.hid hT2
        have ltk : Hid (∀ b, Fk b → b < wr.heap.size) := fun b hb => P.lt _ _ _ _ _ _ b HRk.out hb
        have HNX := fun w' (g : Grew wr w') (t : T w') => Lib.hid (next_is Q (P.grew HRk.out g) hl t hN rfl rfl)
        have n0 : (0 : Int) ≤ k := by omega
        have n1 : (k : Int) < fs.length := by omega
        clear hf hfi hF hT hT2 hN hx hown HT
        go_wp2_with fail
        refine (HNX _ ((Grew.refl wr).alloc _) (K.out _ _ ht (HG.out.alloc _))).out.mono ?_
        clear HNX
        rintro e w7 ⟨F', A7, c7, rfl, hrow, hkk, hown7, hR7, hF7, far7⟩
        have gA := (Grew.refl wr).alloc (.cells #[.int .u8 (kk : Nat), .slice Af ns.length cf] 34)
        have ne14 : ¬ Fk wr.heap.size := fun h => Nat.lt_irrefl _ (ltk.out _ h)
        have gB := (Grew.refl w7).alloc (.cells #[.int .u8 (kk : Nat), .slice A7 ns.length c7] 34)
        have lt14 : wr.heap.size < w7.heap.size := by have := far7.size; simp at this; omega
        have t0 : (w7.alloc (.cells #[.int .u8 (kk : Nat), .slice A7 ns.length c7] 34)).cell? ⟨wr.heap.size, 0, none⟩ = some (.int .u8 (kk : Nat)) := (gB.cell (p := ⟨wr.heap.size, 0, none⟩) lt14).trans ((far7.cell (p := ⟨wr.heap.size, 0, none⟩) (by simp) ne14).trans (by simp [go_sem]))
        have t1 : (w7.alloc (.cells #[.int .u8 (kk : Nat), .slice A7 ns.length c7] 34)).cell? ⟨wr.heap.size, 1, none⟩ = some (.slice Af ns.length cf) := (gB.cell (p := ⟨wr.heap.size, 1, none⟩) lt14).trans ((far7.cell (p := ⟨wr.heap.size, 1, none⟩) (by simp) ne14).trans (by simp [go_sem]))
        have RA := Lib.hid (row_farE (HF.out.row.grew gA) far7 (fun hn b hb hFb => by have h1 := HOWN.out hn b hb; have h2 := HFb.out b hFb; omega))
        have RB := Lib.hid hrow
        have HG7 := Lib.hid (far7.grew (HG.out.trans gA) (fun b hb => HFw.out b hb))
        have HR7 := Lib.hid hR7
        have HR67 := Lib.hid (P.far _ _ _ _ _ _ _ _ (P.grew HR6.out gA) far7 (fun b hb => HDk.out b hb))
        have hs7 : wr.heap.size + 1 ≤ w7.heap.size := by have := far7.size; simpa using this
        have HFR7 := Lib.hid ((HFR.out.grew gA).far far7 (fun b hb => HFb.out b hb))
        have lt6 : Hid (∀ b, F6 b → b < wr.heap.size) := fun b hb => P.lt _ _ _ _ _ _ b HR6.out hb
        have HD7 : Hid (∀ b, F6 b → ¬ F' b) := fun b hb hc => by
          rcases hF7 b hc with h | h
          · exact HDk.out b hb h
          · have := lt6.out b hb; have : wr.heap.size + 1 ≤ b := by simpa using h
            omega
        have HFw7 : Hid (∀ b, F' b → w.heap.size ≤ b) := fun b hb => by
          rcases hF7 b hb with h | h
          · exact HFw.out b h
          · have := HG.out.size; have : wr.heap.size + 1 ≤ b := by simpa using h
            omega
        have HFb7 : Hid (∀ b, F' b → b < w5.heap.size ∨ w6.heap.size ≤ b) := fun b hb => by
          rcases hF7 b hb with h | h
          · exact HFb.out b h
          · right; have : wr.heap.size + 1 ≤ b := by simpa using h
            omega
        clear hrow hown7 hR7 hF7 far7 gA ne14 lt14 HRk HR6 HDk HFw HFb HFR y0 y1 HF
        go_wp2_with fail
        have hg3 := (gB.alloc (.cells #[.int .u8 (kk : Nat), .slice Af ns.length cf] 34)).alloc (.cells #[.int .u8 (kk : Nat), .slice A7 ns.length c7] 34)
        refine (ref08_Same (.slice (some ⟨w7.heap.size + 1, 0, none⟩) 1 1) (.slice (some ⟨w7.heap.size + 1 + 1, 0, none⟩) 1 1) [(kk, ns)] _ (frames_mk (by simp) (by simp [go_sem]) (by simp [go_sem]) (RA.out.grew hg3) hkk) (frames_mk (by simp) (by simp [go_sem]) (by simp [go_sem]) (RB.out.grew hg3) hkk) (by simp)).mono ?_
        rintro e w8 ⟨rfl, g8⟩
        have G8 := Lib.hid (hg3.trans g8)
        clear hg3 g8
        go_wp2_with fail
        go_roundw
        case rel => exact ⟨k + 1, d2, l, L2, F', by omega, by simp, by (have : (d1 : Int) + d2 - d1 = d2 := by omega); rw [this], by omega, hl, HT2.out, P.grew HR7.out G8.out, P.grew HR67.out G8.out, HD7.out, HFw7.out, HFb7.out, HFR7.out.grew G8.out, by have := G8.out.size; omega, HG7.out.trans G8.out⟩
        case measure => simp [intOf]; omega
      · obtain rfl : k = fs.length := by omega
        have hT := HT.out
        rw [List.drop_length] at hT
        have hN := took_zero hT
        have H1 := Lib.hid (next_is Q HRk.out hl (K.out _ _ ht HG.out) hN rfl rfl)
        clear hT hN HT HFb HFR
        go_wp2_with fail
        refine H1.out.mono ?_
        clear H1
        rintro e w7 ⟨F', A7, c7, rfl, hrow, hkk, hown7, hR7, hF7, far7⟩
        have HG7 := Lib.hid (far7.grew HG.out (fun b hb => HFw.out b hb))
        have HR67 := Lib.hid (P.far _ _ _ _ _ _ _ _ HR6.out far7 (fun b hb => HDk.out b hb))
        have HR7 := Lib.hid hR7
        have H1 := fun w' (g : Grew w7 w') => Lib.hid (P.len _ _ _ _ _ _ (P.grew HR67.out g) (K.out _ _ ht (HG7.out.trans g)))
        have H2 := fun w' (g : Grew w7 w') => Lib.hid (P.len _ _ _ _ _ _ (P.grew HR7.out g) (K.out _ _ ht (HG7.out.trans g)))
        clear hrow hkk hown7 hR7 hF7 far7 HRk HR6 HDk HFw
        go_wp2_with fail
        refine (H1 _ (Grew.refl _)).out.mono ?_
        rintro e w8 ⟨rfl, g8⟩
        go_wp2_with fail
        refine (H2 _ g8).out.mono ?_
        rintro e w9 ⟨rfl, g9⟩
        go_wp2_with fail
        refine (HK _ (K.out _ _ ht (HG7.out.trans (g8.trans g9)))).out.mono ?_
        rintro e w10 ⟨rfl, g10⟩
        go_wp2_with fail
        go_ret
        exact ⟨rfl, HG7.out.trans ((g8.trans g9).trans g10)⟩
end Go.Proofs.Ytkoklmecijejkaa
