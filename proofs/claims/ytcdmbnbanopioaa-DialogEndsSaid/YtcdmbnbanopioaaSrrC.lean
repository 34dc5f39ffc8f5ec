/-
  The document's SiRF messages: a payload read.
-/
import Derived.Test.YtcdmbnbanopioaaSrrB
namespace Go.Proofs.Ytcdmbnbanopioaa
open Go.RowKit
set_option linter.unusedVariables false

theorem arr_getS {α : Type} (t : Array α) (d : α) {n : Nat} (h : t.size = n) : t = ((List.range n).map fun k => t[k]?.getD d).toArray := by
  refine Array.ext (by simpa using h) fun i h1 h2 => ?_
  simp [h1]
theorem wp_norm {P : Program} {c : Code} {Q : Exit → Act → World → Prop} {a : Act} {w : World} (h : c.wp P (Exit.then (fun a w => Q .normal a w) fun _ _ _ => False) a w) : c.wp P Q a w :=
  wp_mono h (fun e a' w' q => by cases e <;> first | exact q | exact q.elim)
theorem srf_field (c k : Nat) (h : 2 * k + 1 < (srfLay c).2.length) : ∃ (p m : Nat) (neg : Bool), zi (srfLay c).2 (2 * k) = (p : Nat) ∧ zi (srfLay c).2 (2 * k + 1) = (if neg then -(m : Int) else (m : Int)) ∧ (0 < m ∧ m ≤ 4) ∧ 1 ≤ p ∧ p + m ≤ (srfLay c).1 := by
  have hok := srf_layOk c
  obtain ⟨h1, h2⟩ := hok.size k h
  obtain ⟨h3, h4⟩ := hok.in_ k h
  by_cases hn : zi (srfLay c).2 (2 * k + 1) < 0
  · exact ⟨(zi (srfLay c).2 (2 * k)).toNat, (zi (srfLay c).2 (2 * k + 1)).natAbs, true, by omega, by simp only [if_true]; omega, by omega, by omega, by omega⟩
  · exact ⟨(zi (srfLay c).2 (2 * k)).toNat, (zi (srfLay c).2 (2 * k + 1)).natAbs, false, by omega, by simp only [Bool.false_eq_true, if_false]; omega, by omega, by omega, by omega⟩
/-- What reading a payload tells. -/
def DecS (r : Nat × List Int × Nat) (w : World) (e : Ending) (w' : World) : Prop :=
  ∃ v, e = .returned (.tuple #[.agg #[.int .u8 (r.1 : Nat), v], .int .i64 (r.2.2 : Nat)]) ∧ RowZ .i64 w' v r.2.1 ∧ (0 < r.2.1.length → ∀ x, v.ownBlock = some x → w.heap.size ≤ x) ∧ Grew w w'
theorem decS_no {er : Nat} {w w' : World} (g : Grew w w') : DecS (0, [], er) w (.returned (.tuple #[.agg #[.int .u8 0, .slice none 0 0], .int .i64 (er : Nat)])) w' :=
  ⟨_, rfl, RowZ.nil _ _, (fun q => absurd q (by simp)), g⟩
-- [DEC
set_option maxRecDepth 100000 in
set_option maxHeartbeats 8000000 in
theorem ref13_Decode (v : Value) (S : List Nat) (w : World) (hr : Row .u8 w v S) (hB : Bytes S) (hl : S.length ≤ 100000) :
    Calls Try.prog 42 #[v] w (DecS (srfDec S) w) := by
  have hdec : srfDec S = if S.length = 0 then (0, [], 4) else if (srfLay (wd S 0)).1 = 0 then (0, [], 7) else if S.length ≠ (srfLay (wd S 0)).1 then (0, [], 5) else (wd S 0, bvalsTo S (srfLay (wd S 0)).2 ((srfLay (wd S 0)).2.length / 2), 0) := rfl
  have hm0 := hB 0
  have HL := fun w => ref13_Layout (wd S 0) w hm0
  have HF := srf_field (wd S 0)
  have hev := (srf_layOk (wd S 0)).even
  generalize srfDec S = r at *
  generalize (srfLay (wd S 0)).1 = n at *
  generalize (srfLay (wd S 0)).2 = l at *
  replace HL := fun w => Lib.hid (HL w)
  have HR := Lib.hid hr
  obtain ⟨SA, sc, rfl, hsc⟩ := hr.form
  go_enter Try.func42, Try.ntmps42
  go_upto_region 1 with fail
  obtain ⟨W, hW, g0, T0⟩ := twoC_new w (.int .u8 0) (.slice none 0 0) 85
  rw [hW]
  clear hW
  have T0' := Lib.hid T0
  obtain ⟨_, r0, r1, q0, q1⟩ := T0
  by_cases hS0 : S.length = 0
  · have HP0 : Hid (r = (0, [], 4)) := Lib.hid (by rw [hdec, if_pos hS0])
    have z0 : (S.length : Int) = 0 := by omega
    clear hdec hr
    go_wp2_with fail
    refine bodyPost_ret (by simp [results, Try.results42, go_sem, r0, r1]; try rfl) rfl ?_
    rw [HP0.out]
    exact decS_no (twoC_put g0 (Nat.le_refl _) _ _)
  · have z0 : ¬ (S.length : Int) = 0 := by omega
    have hSp : 0 < S.length := by omega
    obtain ⟨pb, po, e, hpb, hpc⟩ := (by obtain ⟨A', c', e', _, hcl⟩ := hr; simp only [Value.slice.injEq] at e'; obtain ⟨b, o, e2, hb, hc⟩ := hcl hSp; exact ⟨b, o, e'.1.trans e2, hb, hc 0 hSp⟩ : ∃ b o, SA = some ⟨b, o, none⟩ ∧ b < w.heap.size ∧ w.cell? ⟨b, o + 0, none⟩ = some (.int .u8 (wd S 0 : Nat)))
    subst e
    rw [Nat.add_zero] at hpc
    have hx0 := (g0.cell (p := ⟨pb, po, none⟩) hpb).trans hpc
    clear hr
    go_upto_region 4 with (go_at_call 49; refine (HL _).out.mono ?_; rintro e w1 ⟨lv, rfl, hlv, g1⟩)
    obtain ⟨LA, lc, rfl, hlc⟩ := hlv.form
    obtain ⟨_, r0, r1, q0, q1⟩ := T0'.out.grew g1
    by_cases hn0 : n = 0
    · have HP0 : Hid (r = (0, [], 7)) := Lib.hid (by rw [hdec, if_neg hS0, if_pos hn0])
      subst hn0
      clear hdec
      go_wp2_with fail
      refine bodyPost_ret (by simp [results, Try.results42, go_sem, r0, r1]; try rfl) rfl ?_
      rw [HP0.out]
      exact decS_no (twoC_put (g0.trans g1) (Nat.le_refl _) _ _)
    · have n0 : ¬ (n : Int) = 0 := by omega
      by_cases hne : S.length ≠ n
      · have HP0 : Hid (r = (0, [], 5)) := Lib.hid (by rw [hdec, if_neg hS0, if_neg hn0, if_pos hne])
        have n1 : ¬ (S.length : Int) = n := by omega
        clear hdec
        go_wp2_with fail
        refine bodyPost_ret (by simp [results, Try.results42, go_sem, r0, r1]; try rfl) rfl ?_
        rw [HP0.out]
        exact decS_no (twoC_put (g0.trans g1) (Nat.le_refl _) _ _)
      · obtain rfl : n = S.length := by omega
        have HPO : Hid (r = (wd S 0, bvalsTo S l (l.length / 2), 0)) := Lib.hid (by rw [hdec, if_neg hS0, if_neg hn0, if_neg hne])
        have hx1 := (g1.cell (p := ⟨pb, po, none⟩) (Nat.lt_of_lt_of_le hpb g0.size)).trans hx0
        clear hdec hne
        generalize wd S 0 = M0 at *
        go_upto_region 9 with fail
        obtain ⟨V, hV, gV, TV⟩ := twoC_new w1 (.int .u8 (M0 : Nat)) (.slice none 0 0) 85
        try rw [hV]
        clear hV
        have FV := Far.of_grew (F := fun x => w1.heap.size ≤ x) gV
        have hw1 : w.heap.size < w1.heap.size := Nat.lt_of_lt_of_le T0'.out.lt g1.size
        have T1 := Lib.hid (T0'.out.grew g1)
        have GW := Lib.hid (g0.trans g1)
        have HLV := Lib.hid hlv
        have HFI := Lib.hid HF
        have HBy := Lib.hid hB
        clear T0' g0 g1 hlv HF hB r0 r1 q0 q1 HL gV hx0 hx1 hpc
        go_wp2_with fail
        go_loopg [7] (l.length) (fun kx s wr => ∃ (k : Nat) (v' : Value), 2 * k + kx = l.length ∧ s = .int .i64 ((2 * k : Nat) : Int) ∧ Hid (TwoC wr w1.heap.size (.int .u8 (M0 : Nat)) v') ∧ Hid (OwnZ (w1.heap.size + 1) 2 .i64 wr v' (bvalsTo S l k)) ∧ Hid (Far (fun x => w1.heap.size ≤ x) w1 wr))
        case atStart => exact ⟨0, _, by omega, rfl, Lib.hid TV, Lib.hid (OwnZ.nil _ _ _ _), Lib.hid FV⟩
        case round =>
          obtain ⟨k, v', hk, rfl, hT, hO, hFa⟩ := hrel
          by_cases hlt : 2 * k < l.length
          · obtain ⟨p, m, neg, e1, e2, hm, hp1, hpm⟩ := HFI.out k (by omega)
            obtain ⟨lb, lo, rfl, hlb, hy1⟩ := HLV.out.at_ (i := 2 * k) hlt
            obtain ⟨lb', lo', e3, _, hy2⟩ := HLV.out.at_ (i := 2 * k + 1) (by omega)
            cases e3
            have hs := Lib.hid (show bvalsTo S l (k + 1) = bvalsTo S l k ++ [getB S (zi l (2 * k)).toNat (zi l (2 * k + 1))] from rfl)
            have hvl := bvalsTo_length S l k
            rw [e1, e2, Int.toNat_natCast] at hs
            rw [e1] at hy1
            rw [e2] at hy2
            have hgb : getZ (turnTo S p m m) 0 (if neg then -(m : Int) else (m : Int)) = getB S p (if neg then -(m : Int) else (m : Int)) := by unfold getB; cases neg <;> simp
            have y1 := Lib.hid ((hFa.out.cell (p := ⟨lb, lo + 2 * k, none⟩) hlb (by show ¬ w1.heap.size ≤ lb; omega)).trans hy1)
            have y2 := Lib.hid ((hFa.out.cell (p := ⟨lb, lo + (2 * k + 1), none⟩) hlb (by show ¬ w1.heap.size ≤ lb; omega)).trans hy2)
            have HRW := Lib.hid ((HR.out.grew GW.out).far hFa.out (fun x hx h => by have := HR.out.lt (by omega) x hx; omega))
            have hlb2 : lb < wr.heap.size := Nat.lt_of_lt_of_le hlb hFa.out.size
            clear hy1 hy2 e1 e2
            generalize bvalsTo S l k = zs at *
            go_upto_region 12 with fail
            refine wp_norm (srf_round (k := k) (p := p) (m := m) (neg := neg) _ HRW HBy hpm hm hl hlb2 y1 y2 (by omega) hev.2.1 hT hO (by omega) (Lib.hid hgb) rfl rfl rfl rfl rfl _ (fun a w' hdef hsz hfree hres => ?_))
            obtain ⟨v2, k1, k2, k3⟩ := hres
            rw [← hs.out] at k1
            obtain ⟨tm, df⟩ := a
            simp only at hdef hsz hfree
            subst hdef
            have e : tm = #[tm[0]?.getD undef, tm[1]?.getD undef, tm[2]?.getD undef, tm[3]?.getD undef, tm[4]?.getD undef, tm[5]?.getD undef, tm[6]?.getD undef, tm[7]?.getD undef, tm[8]?.getD undef, tm[9]?.getD undef, tm[10]?.getD undef, tm[11]?.getD undef, tm[12]?.getD undef, tm[13]?.getD undef, tm[14]?.getD undef, tm[15]?.getD undef, tm[16]?.getD undef, tm[17]?.getD undef, tm[18]?.getD undef, tm[19]?.getD undef, tm[20]?.getD undef, tm[21]?.getD undef, tm[22]?.getD undef, tm[23]?.getD undef, tm[24]?.getD undef, tm[25]?.getD undef, tm[26]?.getD undef, tm[27]?.getD undef, tm[28]?.getD undef, tm[29]?.getD undef, tm[30]?.getD undef, tm[31]?.getD undef, tm[32]?.getD undef, tm[33]?.getD undef, tm[34]?.getD undef, tm[35]?.getD undef, tm[36]?.getD undef, tm[37]?.getD undef, tm[38]?.getD undef, tm[39]?.getD undef, tm[40]?.getD undef, tm[41]?.getD undef, tm[42]?.getD undef, tm[43]?.getD undef, tm[44]?.getD undef, tm[45]?.getD undef, tm[46]?.getD undef, tm[47]?.getD undef, tm[48]?.getD undef, tm[49]?.getD undef, tm[50]?.getD undef, tm[51]?.getD undef, tm[52]?.getD undef, tm[53]?.getD undef, tm[54]?.getD undef, tm[55]?.getD undef, tm[56]?.getD undef, tm[57]?.getD undef, tm[58]?.getD undef, tm[59]?.getD undef] := (arr_getS tm undef hsz).trans (by kernel_rfl)
            rw [hfree 0 (by kernel_rfl), hfree 1 (by kernel_rfl), hfree 2 (by kernel_rfl), hfree 3 (by kernel_rfl), hfree 4 (by kernel_rfl), hfree 5 (by kernel_rfl), hfree 6 (by kernel_rfl), hfree 7 (by kernel_rfl), hfree 8 (by kernel_rfl), hfree 9 (by kernel_rfl), hfree 10 (by kernel_rfl), hfree 11 (by kernel_rfl), hfree 12 (by kernel_rfl), hfree 13 (by kernel_rfl), hfree 14 (by kernel_rfl), hfree 15 (by kernel_rfl), hfree 16 (by kernel_rfl), hfree 17 (by kernel_rfl), hfree 18 (by kernel_rfl), hfree 19 (by kernel_rfl), hfree 20 (by kernel_rfl), hfree 21 (by kernel_rfl), hfree 22 (by kernel_rfl), hfree 23 (by kernel_rfl), hfree 24 (by kernel_rfl), hfree 25 (by kernel_rfl), hfree 26 (by kernel_rfl), hfree 27 (by kernel_rfl), hfree 28 (by kernel_rfl), hfree 29 (by kernel_rfl), hfree 30 (by kernel_rfl), hfree 31 (by kernel_rfl), hfree 32 (by kernel_rfl), hfree 33 (by kernel_rfl), hfree 34 (by kernel_rfl), hfree 35 (by kernel_rfl), hfree 36 (by kernel_rfl), hfree 59 (by kernel_rfl)] at e
            generalize tm[37]?.getD undef = x37 at e
            generalize tm[38]?.getD undef = x38 at e
            generalize tm[39]?.getD undef = x39 at e
            generalize tm[40]?.getD undef = x40 at e
            generalize tm[41]?.getD undef = x41 at e
            generalize tm[42]?.getD undef = x42 at e
            generalize tm[43]?.getD undef = x43 at e
            generalize tm[44]?.getD undef = x44 at e
            generalize tm[45]?.getD undef = x45 at e
            generalize tm[46]?.getD undef = x46 at e
            generalize tm[47]?.getD undef = x47 at e
            generalize tm[48]?.getD undef = x48 at e
            generalize tm[49]?.getD undef = x49 at e
            generalize tm[50]?.getD undef = x50 at e
            generalize tm[51]?.getD undef = x51 at e
            generalize tm[52]?.getD undef = x52 at e
            generalize tm[53]?.getD undef = x53 at e
            generalize tm[54]?.getD undef = x54 at e
            generalize tm[55]?.getD undef = x55 at e
            generalize tm[56]?.getD undef = x56 at e
            generalize tm[57]?.getD undef = x57 at e
            generalize tm[58]?.getD undef = x58 at e
            simp only [List.getElem?_toArray, List.getElem?_cons_zero, List.getElem?_cons_succ, Option.getD_some] at e
            clear hfree hsz
            subst e
            have F6 := Lib.hid (hFa.out.trans k3)
            have K1 := Lib.hid k1
            have K2 := Lib.hid k2
            clear k1 k2 k3
            go_wp2_with fail
            go_roundg (l.length - 2 * (k + 1))
            case measure => omega
            case rel => exact ⟨k + 1, _, by omega, by simp; omega, K2, K1, F6⟩
          · have hkk : Hid (k = l.length / 2) := by show _ = _; omega
            have c1 : ¬ 2 * (k : Int) < l.length := by omega
            obtain ⟨VA, vc, rfl, _⟩ := hO.out.row.form
            obtain ⟨_, r0, r1, q0, q1⟩ := T1.out.far hFa.out (by show ¬ w1.heap.size ≤ w.heap.size; omega)
            obtain ⟨_, t0, t1, f0, f1⟩ := hT.out
            have GR := Lib.hid (hFa.out.grew GW.out (fun x h => by have : w1.heap.size ≤ x := h; omega))
            have O6 := Lib.hid (hO.out.far (((Far.refl (fun x => x = w.heap.size) wr).setCell (p := ⟨w.heap.size, 0, none⟩) rfl (.int .u8 (M0 : Nat))).setCell (p := ⟨w.heap.size, 1, none⟩) rfl (.slice VA (bvalsTo S l k).length vc)) (fun x hx e => by have := hO.out.lt x hx; have : x = w.heap.size := e; omega))
            have OL := Lib.hid hO.out.lt
            generalize (bvalsTo S l k).length = vn at *
            have O7 : Hid (RowZ .i64 _ _ (bvalsTo S l (l.length / 2))) := Lib.hid (hkk.out ▸ O6.out.row)
            clear hT hO hFa hk hlt O6 hkk
            go_wp2_with fail
            refine bodyPost_ret (by simp [results, Try.results42, go_sem, r0, r1]; try rfl) rfl ?_
            rw [HPO.out]
            exact ⟨_, rfl, O7.out, fun _ x hx => by have := OL.out x hx; omega, twoC_put GR.out (Nat.le_refl _) _ _⟩
-- DEC]
end Go.Proofs.Ytcdmbnbanopioaa
