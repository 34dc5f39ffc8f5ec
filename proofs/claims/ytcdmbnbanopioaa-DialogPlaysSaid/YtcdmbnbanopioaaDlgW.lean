/-
  The document's dialogue: a frame that is heard.
-/
import Derived.Test.YtcdmbnbanopioaaDlgV
namespace Go.Proofs.Ytcdmbnbanopioaa
open Go.RowKit
set_option linter.unusedVariables false

/-- A command's state is written over where its list stands. -/
theorem dlg_inplace {X : Nat → Prop} {w : World} {g g2 cap i s : Nat} {d : Dlg} {r : DRow} (h : DlgAt X w g (.slice (some ⟨g2, 0, none⟩) d.rows.length cap) d) (hr : d.rows[i]? = some r) (hs : s < 4) :
    DlgAt X (w.setCell ⟨g2, i * 7 + 4, none⟩ (.int .i64 (s : Nat))) g (.slice (some ⟨g2, 0, none⟩) d.rows.length cap) ⟨d.rows.set i (turnedOf s r), d.tmo, d.tries, d.now, d.came⟩ ∧ Far (fun k => k = g2) w (w.setCell ⟨g2, i * 7 + 4, none⟩ (.int .i64 (s : Nat))) := by
  have F := (Far.refl (fun k => k = g2) w).setCell (p := ⟨g2, i * 7 + 4, none⟩) rfl (.int .i64 (s : Nat))
  obtain ⟨hl2, hg, hx⟩ := h.own g2 rfl
  obtain ⟨vs, hvl, hflat, hok⟩ := h.rows.flat
  have hi := (List.getElem?_eq_some_iff.1 hr).1
  have hne : ∀ j k : Nat, (⟨g, j, none⟩ : Addr) ≠ ⟨g2, k, none⟩ := fun j k e => hg (by injection e with e _ _; exact e.symm)
  have hc := cells_turn (s := s) hflat hvl hr
  have hgf : ¬ g = g2 := fun e => hg e.symm
  refine ⟨⟨Nat.lt_of_lt_of_le h.lt F.size, (F.cell (p := ⟨g, 0, none⟩) h.lt hgf).trans h.c0, (F.cell (p := ⟨g, 1, none⟩) h.lt hgf).trans h.c1, (F.cell (p := ⟨g, 2, none⟩) h.lt hgf).trans h.c2, (F.cell (p := ⟨g, 3, none⟩) h.lt hgf).trans h.c3, (F.cell (p := ⟨g, 4, none⟩) h.lt hgf).trans h.c4,
    (F.frozen (p := ⟨g, 0, none⟩) h.lt hgf).trans h.f0, (F.frozen (p := ⟨g, 3, none⟩) h.lt hgf).trans h.f3, (F.frozen (p := ⟨g, 4, none⟩) h.lt hgf).trans h.f4, ?_, fun b hb => ⟨Nat.lt_of_lt_of_le (h.own b hb).1 F.size, (h.own b hb).2⟩, h.out, by rw [List.length_set]; exact h.kl, h.kn, h.kt, h.kr⟩, F⟩
  refine DRowsAt.of_flat (rs := d.rows.set i (turnedOf s r)) (vs := vs) (by rw [List.length_set]; exact hvl) ?_ ?_
  · simpa only [List.length_set] using hc
  · intro j q fv h1 h2
    rw [List.getElem?_set] at h1
    by_cases e : i = j
    · subst e
      rw [if_pos rfl, if_pos hi] at h1
      cases h1
      exact ((hok i r fv hr h2).turned hs).far F (fun b hb e => hx (e ▸ hb))
    · rw [if_neg e] at h1
      exact (hok j q fv h1 h2).far F (fun b hb e => hx (e ▸ hb))
/-- What a frame tells. -/
def FrameTells (X : Nat → Prop) (g : Nat) (L : Value) (d : Dlg) (q : Nat × Bool × Nat × Nat) (w : World) (e : Ending) (w' : World) : Prop :=
  ∃ L', (∀ b, L'.ownBlock = some b → L.ownBlock = some b ∨ w.heap.size ≤ b) ∧ e = .returned (.bool (d.hear q.1 q.2.1 q.2.2.1 q.2.2.2).2) ∧ DlgAt X w' g L' (d.hear q.1 q.2.1 q.2.2.1 q.2.2.2).1 ∧ Far (fun k => k = g) w w'
theorem frame_no {X : Nat → Prop} {g : Nat} {d : Dlg} {q : Nat × Bool × Nat × Nat} {w w' : World} {L : Value} (e : hearL q.1 q.2.1 q.2.2.1 q.2.2.2 d.rows = (d.rows, false)) (h : DlgAt X w' g L d) (F : Grew w w') : FrameTells X g L d q w (.returned (.bool false)) w' := by
  unfold FrameTells Dlg.hear
  rw [e]
  exact ⟨L, fun b hb => .inl hb, rfl, h, Far.of_grew F⟩
-- [FRAME
set_option maxRecDepth 100000 in
set_option maxHeartbeats 4000000 in
theorem ref14_Frame (X : Nat → Prop) (g : Nat) (L : Value) (d : Dlg) (w : World) (h : DlgAt X w g L d) (k : Nat) (v : Value) (S : List Nat) (hk : k < 256) (hr : Row .u8 w v S) (hB : Bytes S) (hl : S.length ≤ 100000) (hX : ∀ b, X b → b < w.heap.size) :
    Calls Try.prog 13 #[.pointer (some ⟨g, 0, none⟩), .agg #[.int .u8 (k : Nat), v]] w (FrameTells X g L d (heardOf k S) w) := by
  have hH := Lib.hid h
  have lt := h.lt
  have HR := Lib.hid hr
  obtain ⟨A, c, rfl, hc, _⟩ := hr
  have HHE := fun w' (G : Grew w w') => ref14_heard k (.slice A S.length c) S w' hk (HR.out.grew G) hB hl
  have hw3 : (heardOf k S).1 < 256 ∧ (heardOf k S).2.2.1 < 256 ∧ (heardOf k S).2.2.2 < 256 := by
    unfold heardOf
    have := hB 1
    have := hB 2
    have := hB 3
    split
    · exact ⟨(by decide : 1 < 256), by assumption, by assumption⟩
    · split
      · exact ⟨(by decide : 2 < 256), (by decide : 0 < 256), by assumption⟩
      · exact ⟨by decide, by decide, by decide⟩
  generalize hqq : heardOf k S = qq at *
  obtain ⟨qw, qg, qc, qi⟩ := qq
  unfold HeardT at HHE
  simp only at HHE hw3
  replace HHE := Lib.hid HHE
  clear h hqq
  go_enter Try.func13, Try.ntmps13
  go_upto_region 1 with fail
  obtain ⟨W, hW, g0, T0⟩ := twoC_new w (.int .u8 (k : Nat)) (.slice A S.length c) 37
  rw [hW]
  clear hW
  have T1 := Lib.hid T0
  have G0 := Lib.hid g0
  have H2 := Lib.hid (hH.out.grew g0)
  have hXW : ∀ b, X b → b < W.heap.size := fun b hb => Nat.lt_of_lt_of_le (hX b hb) g0.size
  obtain ⟨_, s0, s1, _, _⟩ := T0
  have HFI := Lib.hid (ref14_first X g L _ W H2.out)
  go_upto_region 2 with (go_at_call 29; refine HFI.out.mono ?_; rintro e w3 ⟨rfl, rfl⟩)
  have lt2 := H2.out.lt
  have c0 := H2.out.c0
  have kl := H2.out.kl
  by_cases hf : firstOf d.rows < d.rows.length
  · have e1 : firstInt d.rows = (firstOf d.rows : Nat) := by rw [firstInt, if_pos hf]
    have hat := Lib.hid (hear_at qw qg qc qi d.rows hf)
    rw [e1]
    obtain ⟨b, o, cc, fv, rfl, hcc, hd, hXf⟩ := H2.out.rows.at_ _ hf
    have hri : Hid (d.rows[firstOf d.rows]? = some d.rows[firstOf d.rows]) := Lib.hid (List.getElem?_eq_getElem hf)
    have hx := hd.c4
    have hbw := hd.cmd.lt
    have hs4 := hd.ks
    have q0 := hd.cmd.c0
    have q1 := hd.cmd.c1
    have q2 := hd.cmd.c2
    have q3 := hd.cmd.c3
    have kw := hd.cmd.kw
    have kc := hd.cmd.kc
    have ki := hd.cmd.ki
    obtain ⟨A2, c2, rfl, hc2, _⟩ := hd.cmd.row
    clear hd
    have hin : (firstOf d.rows : Int) < d.rows.length := by omega
    have hin0 : ¬ (firstOf d.rows : Int) < 0 := by omega
    obtain ⟨i, hi⟩ : ∃ i, firstOf d.rows = i := ⟨_, rfl⟩
    simp only [hi] at *
    generalize hrr : d.rows[i] = r at *
    obtain ⟨⟨rb, rwait, rcls, rid⟩, rst, rsent, rmany⟩ := r
    simp only at hx q1 q2 q3 kw kc ki hs4
    by_cases h1 : rst = 1
    · subst h1
      simp only at q0 hc2 hXf
      have K := Lib.hid (fun w' (G : Grew W w') => (⟨Nat.lt_of_lt_of_le lt2 G.size, Nat.lt_of_lt_of_le hbw G.size, (G.cell (p := ⟨g, 0, none⟩) lt2).trans c0, (G.cell (p := ⟨b, o + i * 7, none⟩) hbw).trans q0, (G.cell (p := ⟨b, o + i * 7 + 1, none⟩) hbw).trans q1, (G.cell (p := ⟨b, o + i * 7 + 2, none⟩) hbw).trans q2, (G.cell (p := ⟨b, o + i * 7 + 3, none⟩) hbw).trans q3⟩ : g < w'.heap.size ∧ b < w'.heap.size ∧ _ ∧ _ ∧ _ ∧ _ ∧ _))
      go_upto_region 6 with (go_at_call 33; refine (HHE.out _ G0.out).mono ?_; rintro e w4 ⟨rfl, g4⟩; obtain ⟨l0, l1, m0, m1, m2, m3, m4⟩ := K.out _ g4)
      obtain ⟨V, hV⟩ : ∃ V, w4.alloc (.cells #[.slice A2 rb.length c2, .int .u8 (rwait : Nat), .int .u8 (rcls : Nat), .int .u8 (rid : Nat)] 28) = V := ⟨_, rfl⟩
      have lp : w4.heap.size < V.heap.size := by rw [← hV]; simp
      have v1 : V.cell? ⟨w4.heap.size, 1, none⟩ = some (.int .u8 (rwait : Nat)) := by rw [← hV]; simp [go_sem]
      have v2 : V.cell? ⟨w4.heap.size, 2, none⟩ = some (.int .u8 (rcls : Nat)) := by rw [← hV]; simp [go_sem]
      have v3 : V.cell? ⟨w4.heap.size, 3, none⟩ = some (.int .u8 (rid : Nat)) := by rw [← hV]; simp [go_sem]
      have GV := Lib.hid (show Grew W V by rw [← hV]; exact g4.trans ((Grew.refl w4).alloc _))
      rw [hV]
      clear hV m0 m1 m2 m3 m4 l0 l1
      generalize w4.heap.size = pc at *
      have e2 : ∀ a b : Nat, ((a : Int) == (b : Int)) = decide (a = b) := fun a b => by rw [Bool.eq_iff_iff, beq_iff_eq, decide_eq_true_iff]; omega
      go_cut [64] (fun s wx => s = .bool (!decide (heardBy qw qc qi ⟨rb, rwait, rcls, rid⟩)) ∧ wx = V)
      case first =>
        by_cases a0 : qw = 0
        · subst a0
          have hb : decide (heardBy 0 qc qi ⟨rb, rwait, rcls, rid⟩) = false := decide_eq_false (fun q => q.1 rfl)
          go_wp2_with fail
          go_meet
          case rel => exact ⟨by rw [hb]; rfl, rfl⟩
        · have a0' : ((qw : Int) == 0) = false := by rw [beq_eq_false_iff_ne]; omega
          by_cases a1 : qw = rwait
          · subst a1
            by_cases a2 : qi = rid
            · subst a2
              by_cases a3 : qw = 1
              · subst a3
                by_cases a4 : qc = rcls
                · subst a4
                  have hb : decide (heardBy 1 qc qi ⟨rb, 1, qc, qi⟩) = true := decide_eq_true ⟨by decide, rfl, rfl, fun _ => rfl⟩
                  go_wp2_with fail
                  go_meet
                  case rel => exact ⟨by rw [hb]; rfl, rfl⟩
                · have a4' : ((qc : Int) == (rcls : Int)) = false := by rw [beq_eq_false_iff_ne]; omega
                  have hb : decide (heardBy 1 qc qi ⟨rb, 1, rcls, qi⟩) = false := decide_eq_false (fun q => a4 (q.2.2.2 rfl))
                  go_wp2_with fail
                  go_meet
                  case rel => exact ⟨by rw [hb, bne, a4'], rfl⟩
              · have a3' : ((qw : Int) == 1) = false := by rw [beq_eq_false_iff_ne]; omega
                have hb : decide (heardBy qw qc qi ⟨rb, qw, rcls, qi⟩) = true := decide_eq_true ⟨a0, rfl, rfl, fun q => absurd q a3⟩
                go_wp2_with fail
                go_meet
                case rel => exact ⟨by rw [hb]; rfl, rfl⟩
            · have a2' : ((qi : Int) == (rid : Int)) = false := by rw [beq_eq_false_iff_ne]; omega
              have hb : decide (heardBy qw qc qi ⟨rb, qw, rcls, rid⟩) = false := decide_eq_false (fun q => a2 q.2.2.1)
              go_wp2_with fail
              go_meet
              case rel => exact ⟨by rw [hb]; rfl, rfl⟩
          · have a1' : ((qw : Int) == (rwait : Int)) = false := by rw [beq_eq_false_iff_ne]; omega
            have hb : decide (heardBy qw qc qi ⟨rb, rwait, rcls, rid⟩) = false := decide_eq_false (fun q => a1 q.2.1)
            go_wp2_with fail
            go_meet
            case rel => exact ⟨by rw [hb]; rfl, rfl⟩
      case rest =>
        obtain ⟨rfl, hVc⟩ := hcut
        subst hVc
        have HV := Lib.hid (H2.out.grew GV.out)
        have lt3 := HV.out.lt
        have d0 := HV.out.c0
        have z0 := HV.out.f0
        by_cases hb : heardBy qw qc qi ⟨rb, rwait, rcls, rid⟩
        · rw [decide_eq_true hb]
          have hyes := Lib.hid (hat.out.trans (if_pos ⟨by trivial, hb⟩))
          have hXV : ∀ b, X b → b < wc.heap.size := fun b hb => Nat.lt_of_lt_of_le (hXW b hb) GV.out.size
          obtain ⟨vs, hvl, hflat, hok⟩ := HV.out.rows.flat
          have hone : ∀ x ∈ flatC d.rows vs, x.oneCell' = true := flatC_one _ _ (vs_one hvl hok)
          have hO : (wc.alloc (.cells #[] 59)).ownsRow wc.heap.size 59 7 (.slice (some ⟨wc.heap.size, 0, none⟩) 0 0) 0 [] := ⟨rfl, .inr ⟨_, 0, #[], rfl, Nat.le_refl _, heap_alloc_new wc _, Nat.le_refl _, Nat.zero_le _, rfl, rfl⟩⟩
          have D0 := (Grew.refl wc).alloc (.cells #[] 59)
          have hflat1 : CellsAt (wc.alloc (.cells #[] 59)) 7 (.slice (some ⟨b, o, none⟩) d.rows.length cc) d.rows.length (flatC d.rows vs) := hflat.far (F := fun _ => False) (Far.of_grew D0) (fun _ _ h => h)
          have c6 := (D0.cell (p := ⟨g, 0, none⟩) lt3).trans d0
          have lt6 := Nat.lt_of_lt_of_le lt3 D0.size
          have HVL := Lib.hid hvl
          clear hvl hat hb v1 v2 v3 e2 lp q0 q1 q2 q3 hx s0 s1 c0 lt
          go_upto_region 10 with (refine wpList_joinC _ rfl _ _ 55 rfl wc.heap.size 59 _ 7 56 rfl infoRow14 rfl (by decide) (.slice (some ⟨wc.heap.size, 0, none⟩) 0 0) 0 [] rfl hO (.slice (some ⟨b, o, none⟩) d.rows.length cc) d.rows.length (flatC d.rows vs) rfl hflat1 hone (by unfold maxLen; omega) (by omega) (by simp) ?_; intro v2 w2 hown2 hgrow2 hnil2; have G12 : Grew wc w2 := Below.grown ((Grew.refl wc).alloc (.cells #[] 59)) hgrow2 ((Grew.refl wc).alloc (.cells #[] 59)).size (fun b hb => (World.ownsRow.lt hO b hb).1); have HF := own_form hown2 (fun e => by have e2 := hnil2.1 e; cases e2.1); obtain ⟨g2, cap2, rfl, hg2, hlt2, hcap2⟩ := HF; rw [Nat.zero_add, List.nil_append] at hown2; have hcf := copy_facts HV.out G12 hg2 hlt2 hown2 hri.out HVL.out; obtain ⟨e0, z0, ltg2, e3, p4, y4⟩ := hcf; simp only at e3 p4 y4)
          have hdt := dlg_turn (s := 3) HV.out hXV HVL.out hok hri.out (by decide) G12 hg2 hlt2 (CellsAt.of_own hown2)
          have e37 : (Value.int .i64 ((3 : Nat) : Int)) = .int .i64 3 := rfl
          rw [e37] at hdt
          have f4 : ((w2.setCell ⟨g, 0, none⟩ (.slice (some ⟨g2, 0, none⟩) d.rows.length cap2)).setCell ⟨g2, i * 7 + 4, none⟩ (.int .i64 3)).frozen? ⟨g2, i * 7 + 4, none⟩ = false := by simpa [go_sem] using y4
          have k4 := World.cell?_setCell_same _ _ (.int .i64 3) p4
          clear hflat1 hflat hok hown2 hnil2 hgrow2 e0 z0 e3 p4 y4 hO D0 lt6 c6 d0
          generalize (w2.setCell ⟨g, 0, none⟩ (.slice (some ⟨g2, 0, none⟩) d.rows.length cap2)).setCell ⟨g2, i * 7 + 4, none⟩ (.int .i64 3) = w7 at hdt f4 k4 ⊢
          obtain ⟨D7, F7⟩ := hdt
          have GW := Lib.hid ((Far.of_grew (F := fun k => k = g) (G0.out.trans GV.out)).trans F7)
          have HG2 : Hid (∀ x, (Value.slice (some ⟨g2, 0, none⟩) d.rows.length cap2).ownBlock = some x → (Value.slice (some ⟨b, o, none⟩) d.rows.length cc).ownBlock = some x ∨ w.heap.size ≤ x) := Lib.hid (fun b hb => by simp [Value.ownBlock] at hb; subst hb; exact .inr (Nat.le_trans (G0.out.trans GV.out).size hg2))
          have lt7 := D7.lt
          have c7 := D7.c0
          cases qg with
          | false =>
            have D8 := Lib.hid D7
            clear D7 F7 f4 k4 c7
            go_wp2_with fail
            go_ret
            unfold FrameTells Dlg.hear
            simp only
            rw [hyes.out]
            exact ⟨_, HG2.out, rfl, D8.out, GW.out⟩
          | true =>
            have hl7 : (d.rows.set i (turnedOf 3 (⟨⟨rb, rwait, rcls, rid⟩, 1, rsent, rmany⟩ : DRow)))[i]? = some (turnedOf 3 (⟨⟨rb, rwait, rcls, rid⟩, 1, rsent, rmany⟩ : DRow)) := by
              rw [List.getElem?_set, if_pos rfl, if_pos (List.getElem?_eq_some_iff.1 hri.out).1]
            have elen : (⟨d.rows.set i (turnedOf 3 (⟨⟨rb, rwait, rcls, rid⟩, 1, rsent, rmany⟩ : DRow)), d.tmo, d.tries, d.now, d.came⟩ : Dlg).rows.length = d.rows.length := List.length_set
            have D7' := D7
            rw [← elen] at D7'
            have hin2 := dlg_inplace (s := 2) D7' hl7 (by decide)
            rw [elen] at hin2
            simp only [List.set_set] at hin2
            have e27 : (Value.int .i64 ((2 : Nat) : Int)) = .int .i64 2 := rfl
            rw [e27] at hin2
            have E8 := Lib.hid hin2
            have hg2w : w.heap.size ≤ g2 := Nat.le_trans (G0.out.trans GV.out).size hg2
            clear hin2 D7 D7' F7 hl7 elen
            go_wp2_with fail
            go_ret
            unfold FrameTells Dlg.hear
            simp only
            rw [hyes.out]
            exact ⟨_, HG2.out, rfl, E8.out.1, GW.out.beyond E8.out.2 (fun x hx => .inr (by have : x = g2 := hx; omega))⟩
        · rw [decide_eq_false hb]
          have hno := Lib.hid (hat.out.trans (if_neg (fun q => hb q.2)))
          clear hat hb
          go_wp2_with fail
          go_ret
          exact frame_no hno.out HV.out (G0.out.trans GV.out)
    · have n1 : ((rst : Int) == 1) = false := by rw [beq_eq_false_iff_ne]; omega
      have n2 : ¬ (rst : Int) = 1 := by omega
      have hno := Lib.hid (hat.out.trans (if_neg (fun q => h1 q.1)))
      clear hat
      go_wp2_with fail
      go_ret
      exact frame_no hno.out H2.out G0.out
  · have hall : firstOf d.rows = d.rows.length := by have := first_le d.rows; omega
    have e1 : firstInt d.rows = -1 := by rw [firstInt, if_neg hf]
    have htn := Lib.hid (hear_all qw qg qc qi d.rows hall)
    rw [e1]
    go_wp2_with fail
    go_ret
    exact frame_no htn.out H2.out G0.out
-- FRAME]
end Go.Proofs.Ytcdmbnbanopioaa
