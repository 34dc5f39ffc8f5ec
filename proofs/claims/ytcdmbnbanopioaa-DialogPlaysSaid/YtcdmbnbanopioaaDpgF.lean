/-
  The program's dialogue: a frame that is heard.
-/
import Derived.Test.YtcdmbnbanopioaaDpgV
import Derived.Deep.RegionHeld3
namespace Go.Proofs.Ytcdmbnbanopioaa
open Go.RowKit
set_option linter.unusedVariables false

/-- What the two closures tell is what the document hears. -/
theorem ans_heard (q : Cmd) (k : Nat) (S : List Nat) (hB : Bytes S) (hw : q.wait = 1 ∨ q.wait = 2) :
    (if q.wait = 1 then aUbx q k S else aSrf q k S) = if heardBy (heardOf k S).1 (heardOf k S).2.2.1 (heardOf k S).2.2.2 q then (if (heardOf k S).2.1 then 1 else 2) else 0 := by
  rcases hw with hw | hw
  · rw [if_pos hw]
    by_cases h2 : k = 2 ∧ S.length = 4 ∧ wd S 0 = 5 ∧ wd S 1 ≤ 1
    · have hh : heardOf k S = (1, decide (wd S 1 = 1), wd S 2, wd S 3) := by unfold heardOf; rw [if_pos h2]
      obtain ⟨h0, h4, h5, h1⟩ := h2
      have hd := (ubx_ack S (by omega) hB h5).1 ⟨h4, h1⟩
      rw [hh]
      unfold aUbx
      rw [hd]
      by_cases e : wd S 2 = q.cls ∧ wd S 3 = q.id
      · rw [if_pos ⟨h0, by omega, rfl, h5, by rw [e.1, e.2]⟩, if_pos ⟨show (1 : Nat) ≠ 0 by decide, hw.symm, e.2, fun _ => e.1⟩]
        unfold ansOf
        by_cases h : wd S 1 = 1
        · simp [h]
        · simp [h]; omega
      · rw [if_neg (fun y => e (by have := y.2.2.2.2; simp at this; omega)), if_neg (fun y => e ⟨y.2.2.2 rfl, y.2.2.1⟩)]
    · have hn : (heardOf k S).1 ≠ 1 := by
        unfold heardOf
        rw [if_neg h2]
        split <;> simp
      rw [if_neg (show ¬ heardBy _ _ _ q from fun y => hn (y.2.1.trans hw))]
      unfold aUbx
      rw [if_neg]
      rintro ⟨h0, hl, he, h5, -⟩
      exact (ubx_ack S hl hB h5).2 (fun y => h2 ⟨h0, y.1, h5, y.2⟩) he
  · rw [if_neg (by omega)]
    by_cases h3 : k = 3 ∧ S.length = 2 ∧ (wd S 0 = 11 ∨ wd S 0 = 12)
    · have hh : heardOf k S = (2, decide (wd S 0 = 11), 0, wd S 1) := by unfold heardOf; rw [if_neg (by omega), if_pos h3]
      have hd := (srf_ack S hB).1 h3.2
      rw [hh]
      unfold aSrf
      rw [hd]
      by_cases e : wd S 1 = q.id
      · rw [if_pos ⟨h3.1, rfl, by rw [e]⟩, if_pos ⟨show (2 : Nat) ≠ 0 by decide, hw.symm, e, fun y => absurd y (show ¬ (2 : Nat) = 1 by decide)⟩]
        unfold ansOf
        by_cases h : wd S 0 = 11
        · simp [h]
        · have : wd S 0 = 12 := h3.2.2.resolve_left h
          simp [this]
      · rw [if_neg (fun y => e (by have := y.2.2; simp at this; omega)), if_neg (fun y => e y.2.2.1)]
    · have hn : (heardOf k S).1 ≠ 2 := by
        unfold heardOf
        rw [if_neg h3]
        split <;> simp
      rw [if_neg (show ¬ heardBy _ _ _ q from fun y => hn (y.2.1.trans hw))]
      unfold aSrf
      by_cases h : k = 3 ∧ (srfDec S).2.2 = 0 ∧ (srfDec S).2.1 = [(q.id : Int)]
      · rw [if_pos h]
        have hx := (srf_ack S hB).2 (fun y => h3 ⟨h.1, y⟩)
        unfold ansOf
        rw [if_neg (fun y => hx ⟨h.2.1, .inl y⟩), if_neg (fun y => hx ⟨h.2.1, .inr y⟩)]
      · rw [if_neg h]
theorem PrgAt.doneAt {K : Nat → Prop} {w : World} {g : Nat} {L : Value} {fl : Option (Nat × DRow)} {W : List Cmd} {dn ls : Nat} {now tmo : Int} {tries : Nat} (h : PrgAt K w g L fl W dn ls now tmo tries) (hl : dn < 50) :
    PrgAt K ((w.setCell ⟨g, 4, none⟩ (.int .i64 ((dn : Int) + 1))).setCell ⟨g, 3, none⟩ (.pointer none)) g L none W (dn + 1) ls now tmo tries ∧ Far (fun b => b = g) w ((w.setCell ⟨g, 4, none⟩ (.int .i64 ((dn : Int) + 1))).setCell ⟨g, 3, none⟩ (.pointer none)) := by
  have F := (Far.one w ⟨g, 4, none⟩ (.int .i64 ((dn : Int) + 1))).setCell (p := ⟨g, 3, none⟩) rfl (.pointer none)
  have hK : ∀ b, K b → ¬ b = g := fun b hb e => h.ng (e ▸ hb)
  exact ⟨h.turn F (fun b hb e => hK b e hb) (by rw [show ((dn + 1 : Nat) : Int) = (dn : Int) + 1 by omega]; exact (h.seven.put4 _).put3 (.pointer none)) (fun x r e => by cases e) ⟨by omega, h.kd.2⟩ h.kn, F⟩
theorem PrgAt.failAt {K : Nat → Prop} {w : World} {g : Nat} {L : Value} {fl : Option (Nat × DRow)} {W : List Cmd} {dn ls : Nat} {now tmo : Int} {tries : Nat} (h : PrgAt K w g L fl W dn ls now tmo tries) (hl : ls < 50) :
    PrgAt K ((w.setCell ⟨g, 5, none⟩ (.int .i64 ((ls : Int) + 1))).setCell ⟨g, 3, none⟩ (.pointer none)) g L none W dn (ls + 1) now tmo tries ∧ Far (fun b => b = g) w ((w.setCell ⟨g, 5, none⟩ (.int .i64 ((ls : Int) + 1))).setCell ⟨g, 3, none⟩ (.pointer none)) := by
  have F := (Far.one w ⟨g, 5, none⟩ (.int .i64 ((ls : Int) + 1))).setCell (p := ⟨g, 3, none⟩) rfl (.pointer none)
  have hK : ∀ b, K b → ¬ b = g := fun b hb e => h.ng (e ▸ hb)
  exact ⟨h.turn F (fun b hb e => hK b e hb) (by rw [show ((ls + 1 : Nat) : Int) = (ls : Int) + 1 by omega]; exact (h.seven.put5 _).put3 (.pointer none)) (fun x r e => by cases e) ⟨h.kd.1, by omega⟩ h.kn, F⟩
def FrameT (K : Nat → Prop) (g : Nat) (F : Nat → Prop) (d : Dlg) (y : Bool) (w : World) (e : Ending) (w' : World) : Prop :=
  ∃ F', e = .returned (.bool y) ∧ PrgR K w' (.pointer (some ⟨g, 0, none⟩)) F' d ∧ Far F w w' ∧ ∀ b, F' b → F b ∨ w.heap.size ≤ b
-- [HALF
set_option maxRecDepth 100000 in
set_option maxHeartbeats 8000000 in
/-- The half of a frame behind the look-up: HT is the closure's contract. -/
theorem prg_Frame (K : Nat → Prop) (w : World) (v : Value) (F : Nat → Prop) (d : Dlg) (k : Nat) (u : Value) (S : List Nat) (hR : PrgR K w v F d) (hok : DlgOk d) (hk : k < 256) (hr : Row .u8 w u S) (hB : Bytes S) (hl : S.length ≤ 100000) :
    Calls Try.prog 12 #[v, .agg #[.int .u8 (k : Nat), u]] w fun e w' => ∃ F', e = .returned (.bool (d.hear (heardOf k S).1 (heardOf k S).2.1 (heardOf k S).2.2.1 (heardOf k S).2.2.2).2) ∧ PrgR K w' v F' (d.hear (heardOf k S).1 (heardOf k S).2.1 (heardOf k S).2.2.1 (heardOf k S).2.2.2).1 ∧ Far F w w' ∧ ∀ b, F' b → F b ∨ w.heap.size ≤ b := by
  obtain ⟨g, L, fl, E, W, rfl, hF, hp, H⟩ := hR
  have hkl := hok.kl
  have hEl : E.length + W.length ≤ 16 := by rw [hp.eq] at hkl; simp only [List.length_append] at hkl; omega
  have hdE := done_le E
  have hlE := lost_le E
  have HR := Lib.hid hr
  have hFg : ∀ b, b = g → F b := fun b e => (hF b).2 (.inl e)
  have HAN := fun q hw => ans_heard q k S hB hw
  generalize hqq : heardOf k S = qq at *
  obtain ⟨qw, qg, qc, qi⟩ := qq
  simp only at HAN ⊢
  have hhe : d.hear qw qg qc qi = (⟨(hearL qw qg qc qi d.rows).1, d.tmo, d.tries, d.now, d.came⟩, (hearL qw qg qc qi d.rows).2) := rfl
  show Calls _ _ _ _ (FrameT K g F (d.hear qw qg qc qi).1 (d.hear qw qg qc qi).2 w)
  rw [hhe]
  clear hhe hqq hok hkl
  obtain ⟨m, hm⟩ : ∃ m, (if d.came then d.now else -9223372036854775808) = m := ⟨_, rfl⟩
  rw [hm] at H
  obtain ⟨A, c, rfl, hc, _⟩ := hr
  go_enter Try.func12, Try.ntmps12
  go_upto_region 1 with fail
  obtain ⟨V, hV, gV, TV⟩ := twoC_new w (.int .u8 (k : Nat)) (.slice A S.length c) 37
  rw [hV]
  clear hV
  have TV1 := Lib.hid TV
  have HV := Lib.hid (H.grew gV)
  have GV := Lib.hid gV
  have HFL := Lib.hid (prg_Flying HV.out)
  clear TV
  cases fl with
  | none =>
    have hhr := Lib.hid (hp.hear_none qw qg qc qi)
    simp only [Option.isSome] at HFL
    go_wp2_with (go_at_call 18; refine HFL.out.mono ?_; rintro e w1 ⟨rfl, hw1⟩; subst hw1)
    go_ret
    rw [hhr.out]
    exact ⟨F, rfl, ⟨g, L, none, E, W, rfl, hF, hp, by rw [hm]; exact HV.out⟩, Far.of_grew GV.out, fun b q => .inl q⟩
  | some xr =>
    obtain ⟨x, r⟩ := xr
    have hhr := Lib.hid (hp.hear_fly qw qg qc qi)
    obtain ⟨hxg, fv, hfv⟩ := HV.out.fly x r rfl
    have may := hfv.may
    have hw0 := (hp.fly r rfl).2
    have hwait : r.c.wait = 1 ∨ r.c.wait = 2 := by have := may.2.2; omega
    have hans := HAN r.c hwait
    obtain ⟨Af, cf, rfl, hcf, _⟩ := hfv.cmd.row
    have c3 := HV.out.c3
    unfold flyV at c3
    simp only at c3
    have lt := HV.out.lt
    have lx := hfv.cmd.lt
    have q0 := hfv.cmd.c0
    have q1 := hfv.cmd.c1
    have q2 := hfv.cmd.c2
    have q3 := hfv.cmd.c3
    simp only [Nat.zero_add] at q1 q2 q3
    have KS0 : ∀ w', Grew V w' → w'.cell? ⟨g, 3, none⟩ = some (.pointer (some ⟨x, 0, none⟩)) ∧ w'.cell? ⟨x, 0, none⟩ = some (.slice Af r.c.b.length cf) ∧ w'.cell? ⟨x, 1, none⟩ = some (.int .u8 (r.c.wait : Nat)) ∧ w'.cell? ⟨x, 2, none⟩ = some (.int .u8 (r.c.cls : Nat)) ∧ w'.cell? ⟨x, 3, none⟩ = some (.int .u8 (r.c.id : Nat)) := fun w' G =>
      ⟨(G.cell (p := ⟨g, 3, none⟩) lt).trans c3, (G.cell (p := ⟨x, 0, none⟩) lx).trans q0, (G.cell (p := ⟨x, 1, none⟩) lx).trans q1, (G.cell (p := ⟨x, 2, none⟩) lx).trans q2, (G.cell (p := ⟨x, 3, none⟩) lx).trans q3⟩
    have kc := hfv.cmd.kc
    have ki := hfv.cmd.ki
    have HA := fun w => Lib.hid (prg_answers r.c Af r.c.b.length cf w)
    simp only [Option.isSome] at HFL
    clear hfv HAN may q0 q1 q2 q3 c3
    rcases hwait with hw | hw
    · rw [if_pos hw] at hans
      have HANS := Lib.hid hans
      rw [hw] at KS0 HA
      have KS := KS0
      clear hans KS0
      go_upto_region 3 with (go_at_call 18; refine HFL.out.mono ?_; rintro e w1 ⟨rfl, hw1⟩; subst hw1)
      go_cut [5, 6] (fun s t wx => ∃ (M cb : Nat), s = .func (.func 35) #[] #[.pointer (some ⟨cb, 0, none⟩)] ∧ t = .bool true ∧ Hid (AnsAt wx M cb r.c) ∧ Hid (Grew V wx))
      case first =>
        have G := (Grew.refl V).drew
        go_region_held3 (fun w' => w'.cell? ⟨g, 3, none⟩ = some (.pointer (some ⟨x, 0, none⟩)) ∧ w'.cell? ⟨x, 0, none⟩ = some (.slice Af r.c.b.length cf) ∧ w'.cell? ⟨x, 1, none⟩ = some (.int .u8 ((1 : Nat) : Int)) ∧ w'.cell? ⟨x, 2, none⟩ = some (.int .u8 (r.c.cls : Nat)) ∧ w'.cell? ⟨x, 3, none⟩ = some (.int .u8 (r.c.id : Nat))) (exact KS _ G) (first | (go_at_call 32; refine (HA _).out.mono ?_; rintro e w2 ⟨M, cb, rfl, hM, g2⟩; replace G := G.trans g2; have HM := Lib.hid hM; have hlk := hM.look1; clear hM g2))
        go_wp2_with fail
        go_meet
        case rel => exact ⟨M, cb, rfl, rfl, HM, Lib.hid G⟩
      case rest =>
        obtain ⟨M, cb, rfl, rfl, HM, HG⟩ := hcut
        obtain ⟨wX, hwX⟩ : ∃ x, x = wc := ⟨_, rfl⟩
        subst hwX
        have H4 := Lib.hid (HV.out.grew HG.out)
        obtain ⟨_, s0, s1, _, _⟩ := TV1.out.grew HG.out
        have HC := Lib.hid (prg_ans1 cb r.c k (.slice A S.length c) S wX HM.out.lt HM.out.c2 HM.out.c3 kc ki hk (HR.out.grew (GV.out.trans HG.out)) hB hl)
        obtain ⟨n, hn⟩ : ∃ n, aUbx r.c k S = n := ⟨_, rfl⟩
        rw [hn] at HC HANS
        have GA := Lib.hid (GV.out.trans HG.out)
        clear hn HM TV1 KS HA lx
        by_cases hby : heardBy qw qc qi r.c
        · cases qg with
          | true =>
            obtain rfl : n = 1 := by have := HANS.out; rwa [if_pos hby, if_pos rfl] at this
            have hre := Lib.hid (hhr.out.trans (if_pos hby))
            have e1 : IntKind.i64.wrap ((doneOf E : Int) + 1) = (doneOf E : Int) + 1 := IntWalk.i64_in _ (by omega)
            clear HANS hby hhr
            go_upto_region 9 with (go_at_call 35; refine HC.out.mono ?_; rintro e w5 ⟨rfl, g5⟩; have H5 := Lib.hid (H4.out.grew g5); obtain ⟨l5, _, _, _, u3, u4, u5, _, _, v3, v4, v5, _⟩ := (H5.out).seven)
            go_wp2_with fail
            go_ret
            obtain ⟨H6, F6⟩ := H5.out.doneAt (by omega)
            obtain ⟨n1, n2⟩ := turned_done E r
            rw [hre.out]
            exact ⟨ownSet g none, rfl, ⟨g, L, none, E ++ [turnedOf 2 r], W, rfl, fun b => Iff.rfl, hp.turned 2 (by decide), by rw [n1, n2, hm]; exact H6⟩, (Far.of_grew (GA.out.trans g5)).trans (F6.mono (fun b _ q => hFg b q)), fun b q => .inl (hFg b (ownSet_none b q))⟩
          | false =>
            obtain rfl : n = 2 := by have := HANS.out; rwa [if_pos hby, if_neg (by decide)] at this
            have hre := Lib.hid (hhr.out.trans (if_pos hby))
            have e1 : IntKind.i64.wrap ((lostOf E : Int) + 1) = (lostOf E : Int) + 1 := IntWalk.i64_in _ (by omega)
            clear HANS hby hhr
            go_upto_region 11 with (go_at_call 35; refine HC.out.mono ?_; rintro e w5 ⟨rfl, g5⟩; have H5 := Lib.hid (H4.out.grew g5); obtain ⟨l5, _, _, _, u3, u4, u5, _, _, v3, v4, v5, _⟩ := (H5.out).seven)
            go_wp2_with fail
            go_ret
            obtain ⟨H6, F6⟩ := H5.out.failAt (by omega)
            obtain ⟨n1, n2⟩ := turned_lost E r
            rw [hre.out]
            exact ⟨ownSet g none, rfl, ⟨g, L, none, E ++ [turnedOf 3 r], W, rfl, fun b => Iff.rfl, hp.turned 3 (by decide), by rw [n1, n2, hm]; exact H6⟩, (Far.of_grew (GA.out.trans g5)).trans (F6.mono (fun b _ q => hFg b q)), fun b q => .inl (hFg b (ownSet_none b q))⟩
        · obtain rfl : n = 0 := by have := HANS.out; rwa [if_neg hby] at this
          have hre := Lib.hid (hhr.out.trans (if_neg hby))
          clear HANS hby hhr
          go_wp2_with (go_at_call 35; refine HC.out.mono ?_; rintro e w5 ⟨rfl, g5⟩)
          go_ret
          rw [hre.out]
          exact ⟨F, rfl, ⟨g, L, some (x, r), E, W, rfl, hF, hp, by rw [hm]; exact H4.out.grew g5⟩, Far.of_grew (GA.out.trans g5), fun b q => .inl q⟩
    · rw [if_neg (show ¬ r.c.wait = 1 by omega)] at hans
      have HANS := Lib.hid hans
      rw [hw] at KS0 HA
      have KS := KS0
      clear hans KS0
      go_upto_region 3 with (go_at_call 18; refine HFL.out.mono ?_; rintro e w1 ⟨rfl, hw1⟩; subst hw1)
      go_cut [5, 6] (fun s t wx => ∃ (M cb : Nat), s = .func (.func 39) #[] #[.pointer (some ⟨cb, 0, none⟩)] ∧ t = .bool true ∧ Hid (AnsAt wx M cb r.c) ∧ Hid (Grew V wx))
      case first =>
        have G := (Grew.refl V).drew
        go_region_held3 (fun w' => w'.cell? ⟨g, 3, none⟩ = some (.pointer (some ⟨x, 0, none⟩)) ∧ w'.cell? ⟨x, 0, none⟩ = some (.slice Af r.c.b.length cf) ∧ w'.cell? ⟨x, 1, none⟩ = some (.int .u8 ((2 : Nat) : Int)) ∧ w'.cell? ⟨x, 2, none⟩ = some (.int .u8 (r.c.cls : Nat)) ∧ w'.cell? ⟨x, 3, none⟩ = some (.int .u8 (r.c.id : Nat))) (exact KS _ G) (first | (go_at_call 32; refine (HA _).out.mono ?_; rintro e w2 ⟨M, cb, rfl, hM, g2⟩; replace G := G.trans g2; have HM := Lib.hid hM; have hlk := hM.look2; clear hM g2))
        go_wp2_with fail
        go_meet
        case rel => exact ⟨M, cb, rfl, rfl, HM, Lib.hid G⟩
      case rest =>
        obtain ⟨M, cb, rfl, rfl, HM, HG⟩ := hcut
        obtain ⟨wX, hwX⟩ : ∃ x, x = wc := ⟨_, rfl⟩
        subst hwX
        have H4 := Lib.hid (HV.out.grew HG.out)
        obtain ⟨_, s0, s1, _, _⟩ := TV1.out.grew HG.out
        have HC := Lib.hid (prg_ans2 cb r.c k (.slice A S.length c) S wX HM.out.lt HM.out.c3 ki hk (HR.out.grew (GV.out.trans HG.out)) hB hl)
        obtain ⟨n, hn⟩ : ∃ n, aSrf r.c k S = n := ⟨_, rfl⟩
        rw [hn] at HC HANS
        have GA := Lib.hid (GV.out.trans HG.out)
        clear hn HM TV1 KS HA lx
        by_cases hby : heardBy qw qc qi r.c
        · cases qg with
          | true =>
            obtain rfl : n = 1 := by have := HANS.out; rwa [if_pos hby, if_pos rfl] at this
            have hre := Lib.hid (hhr.out.trans (if_pos hby))
            have e1 : IntKind.i64.wrap ((doneOf E : Int) + 1) = (doneOf E : Int) + 1 := IntWalk.i64_in _ (by omega)
            clear HANS hby hhr
            go_upto_region 9 with (go_at_call 39; refine HC.out.mono ?_; rintro e w5 ⟨rfl, g5⟩; have H5 := Lib.hid (H4.out.grew g5); obtain ⟨l5, _, _, _, u3, u4, u5, _, _, v3, v4, v5, _⟩ := (H5.out).seven)
            go_wp2_with fail
            go_ret
            obtain ⟨H6, F6⟩ := H5.out.doneAt (by omega)
            obtain ⟨n1, n2⟩ := turned_done E r
            rw [hre.out]
            exact ⟨ownSet g none, rfl, ⟨g, L, none, E ++ [turnedOf 2 r], W, rfl, fun b => Iff.rfl, hp.turned 2 (by decide), by rw [n1, n2, hm]; exact H6⟩, (Far.of_grew (GA.out.trans g5)).trans (F6.mono (fun b _ q => hFg b q)), fun b q => .inl (hFg b (ownSet_none b q))⟩
          | false =>
            obtain rfl : n = 2 := by have := HANS.out; rwa [if_pos hby, if_neg (by decide)] at this
            have hre := Lib.hid (hhr.out.trans (if_pos hby))
            have e1 : IntKind.i64.wrap ((lostOf E : Int) + 1) = (lostOf E : Int) + 1 := IntWalk.i64_in _ (by omega)
            clear HANS hby hhr
            go_upto_region 11 with (go_at_call 39; refine HC.out.mono ?_; rintro e w5 ⟨rfl, g5⟩; have H5 := Lib.hid (H4.out.grew g5); obtain ⟨l5, _, _, _, u3, u4, u5, _, _, v3, v4, v5, _⟩ := (H5.out).seven)
            go_wp2_with fail
            go_ret
            obtain ⟨H6, F6⟩ := H5.out.failAt (by omega)
            obtain ⟨n1, n2⟩ := turned_lost E r
            rw [hre.out]
            exact ⟨ownSet g none, rfl, ⟨g, L, none, E ++ [turnedOf 3 r], W, rfl, fun b => Iff.rfl, hp.turned 3 (by decide), by rw [n1, n2, hm]; exact H6⟩, (Far.of_grew (GA.out.trans g5)).trans (F6.mono (fun b _ q => hFg b q)), fun b q => .inl (hFg b (ownSet_none b q))⟩
        · obtain rfl : n = 0 := by have := HANS.out; rwa [if_neg hby] at this
          have hre := Lib.hid (hhr.out.trans (if_neg hby))
          clear HANS hby hhr
          go_wp2_with (go_at_call 39; refine HC.out.mono ?_; rintro e w5 ⟨rfl, g5⟩)
          go_ret
          rw [hre.out]
          exact ⟨F, rfl, ⟨g, L, some (x, r), E, W, rfl, hF, hp, by rw [hm]; exact H4.out.grew g5⟩, Far.of_grew (GA.out.trans g5), fun b q => .inl q⟩
-- HALF]
end Go.Proofs.Ytcdmbnbanopioaa
