/-
  The program's dialogue: a frame that is heard.
  The laws of dialogues: ticks a timeout apart end one.
  The laws of dialogues: the program's dialogue beside the document's; a list that is copied.
  The program's dialogue: New: which commands may be; the list is copied, each command's bytes too.
  The program's dialogue: New.
  The program's dialogue: all that its calls tell.
  A text's bytes as numbers.
  The document's ring: a list behind a pointer.
  The document's ring: its first bytes, some gone, another one.
  What the program's ring tells; the page's example out of it.
  Bit operations of small kinds on natural numbers. Nothing of the program.
  Contracts of the document's checksums.
  The document's exclusive or, bit by bit.
-/
import Derived.Test.YtcdmbnbanopioaaGreatDoorP06
import Derived.Deep.RegionHeld3
import Derived.Test.YtcdmbnbanopioaaGreatDoorP03
import Derived.Test.YtcdmbnbanopioaaGreatDoorP02
import Derived.OwnWalk
import Derived.LoopTactic

namespace Go.Proofs.YtcdmbnbanopioaaGreatDoor
open Go.RowKit
set_option linter.unusedVariables false

/-- What the two closures tell is what the document hears. -/
theorem ans_heard (q : Cmd) (k : Nat) (S : List Nat) (hB : Bytes S) (hw : q.wait = 1 ∨ q.wait = 2) :
    (if q.wait = 1 then aUbx q k S else aSrf q k S) = if heardBy (heardOf k S).1 (heardOf k S).2.2.1 (heardOf k S).2.2.2 q then (if (heardOf k S).2.1 then 1 else 2) else 0 := by
  rcases hw with hw | hw
  · rw [if_pos hw]
    by_cases h2 : k = 2 ∧ S.length = 4 ∧ wd S 0 = 5 ∧ wd S 1 ≤ 1
    · have hh : heardOf k S = (1, decide (wd S 1 = 1), wd S 2, wd S 3) := by unfold heardOf; rw [if_pos h2]
      obtain ⟨h0, h4, h5, h1⟩ := h2
      have hd := (ubx_ack S (by omega) hB h5).1 ⟨h4, h1⟩
      rw [hh]
      unfold aUbx
      rw [hd]
      by_cases e : wd S 2 = q.cls ∧ wd S 3 = q.id
      · rw [if_pos ⟨h0, by omega, rfl, h5, by rw [e.1, e.2]⟩, if_pos ⟨show (1 : Nat) ≠ 0 by decide, hw.symm, e.2, fun _ => e.1⟩]
        unfold ansOf
        by_cases h : wd S 1 = 1
        · simp [h]
        · simp [h]; omega
      · rw [if_neg (fun y => e (by have := y.2.2.2.2; simp at this; omega)), if_neg (fun y => e ⟨y.2.2.2 rfl, y.2.2.1⟩)]
    · have hn : (heardOf k S).1 ≠ 1 := by
        unfold heardOf
        rw [if_neg h2]
        split <;> simp
      rw [if_neg (show ¬ heardBy _ _ _ q from fun y => hn (y.2.1.trans hw))]
      unfold aUbx
      rw [if_neg]
      rintro ⟨h0, hl, he, h5, -⟩
      exact (ubx_ack S hl hB h5).2 (fun y => h2 ⟨h0, y.1, h5, y.2⟩) he
  · rw [if_neg (by omega)]
    by_cases h3 : k = 3 ∧ S.length = 2 ∧ (wd S 0 = 11 ∨ wd S 0 = 12)
    · have hh : heardOf k S = (2, decide (wd S 0 = 11), 0, wd S 1) := by unfold heardOf; rw [if_neg (by omega), if_pos h3]
      have hd := (srf_ack S hB).1 h3.2
      rw [hh]
      unfold aSrf
      rw [hd]
      by_cases e : wd S 1 = q.id
      · rw [if_pos ⟨h3.1, rfl, by rw [e]⟩, if_pos ⟨show (2 : Nat) ≠ 0 by decide, hw.symm, e, fun y => absurd y (show ¬ (2 : Nat) = 1 by decide)⟩]
        unfold ansOf
        by_cases h : wd S 0 = 11
        · simp [h]
        · have : wd S 0 = 12 := h3.2.2.resolve_left h
          simp [this]
      · rw [if_neg (fun y => e (by have := y.2.2; simp at this; omega)), if_neg (fun y => e y.2.2.1)]
    · have hn : (heardOf k S).1 ≠ 2 := by
        unfold heardOf
        rw [if_neg h3]
        split <;> simp
      rw [if_neg (show ¬ heardBy _ _ _ q from fun y => hn (y.2.1.trans hw))]
      unfold aSrf
      by_cases h : k = 3 ∧ (srfDec S).2.2 = 0 ∧ (srfDec S).2.1 = [(q.id : Int)]
      · rw [if_pos h]
        have hx := (srf_ack S hB).2 (fun y => h3 ⟨h.1, y⟩)
        unfold ansOf
        rw [if_neg (fun y => hx ⟨h.2.1, .inl y⟩), if_neg (fun y => hx ⟨h.2.1, .inr y⟩)]
      · rw [if_neg h]
theorem PrgAt.doneAt {K : Nat → Prop} {w : World} {g : Nat} {L : Value} {fl : Option (Nat × DRow)} {W : List Cmd} {dn ls : Nat} {now tmo : Int} {tries : Nat} (h : PrgAt K w g L fl W dn ls now tmo tries) (hl : dn < 50) :
    PrgAt K ((w.setCell ⟨g, 4, none⟩ (.int .i64 ((dn : Int) + 1))).setCell ⟨g, 3, none⟩ (.pointer none)) g L none W (dn + 1) ls now tmo tries ∧ Far (fun b => b = g) w ((w.setCell ⟨g, 4, none⟩ (.int .i64 ((dn : Int) + 1))).setCell ⟨g, 3, none⟩ (.pointer none)) := by
  have F := (Far.one w ⟨g, 4, none⟩ (.int .i64 ((dn : Int) + 1))).setCell (p := ⟨g, 3, none⟩) rfl (.pointer none)
  have hK : ∀ b, K b → ¬ b = g := fun b hb e => h.ng (e ▸ hb)
  exact ⟨h.turn F (fun b hb e => hK b e hb) (by rw [show ((dn + 1 : Nat) : Int) = (dn : Int) + 1 by omega]; exact (h.seven.put4 _).put3 (.pointer none)) (fun x r e => by cases e) ⟨by omega, h.kd.2⟩ h.kn, F⟩
theorem PrgAt.failAt {K : Nat → Prop} {w : World} {g : Nat} {L : Value} {fl : Option (Nat × DRow)} {W : List Cmd} {dn ls : Nat} {now tmo : Int} {tries : Nat} (h : PrgAt K w g L fl W dn ls now tmo tries) (hl : ls < 50) :
    PrgAt K ((w.setCell ⟨g, 5, none⟩ (.int .i64 ((ls : Int) + 1))).setCell ⟨g, 3, none⟩ (.pointer none)) g L none W dn (ls + 1) now tmo tries ∧ Far (fun b => b = g) w ((w.setCell ⟨g, 5, none⟩ (.int .i64 ((ls : Int) + 1))).setCell ⟨g, 3, none⟩ (.pointer none)) := by
  have F := (Far.one w ⟨g, 5, none⟩ (.int .i64 ((ls : Int) + 1))).setCell (p := ⟨g, 3, none⟩) rfl (.pointer none)
  have hK : ∀ b, K b → ¬ b = g := fun b hb e => h.ng (e ▸ hb)
  exact ⟨h.turn F (fun b hb e => hK b e hb) (by rw [show ((ls + 1 : Nat) : Int) = (ls : Int) + 1 by omega]; exact (h.seven.put5 _).put3 (.pointer none)) (fun x r e => by cases e) ⟨h.kd.1, by omega⟩ h.kn, F⟩
def FrameT (K : Nat → Prop) (g : Nat) (F : Nat → Prop) (d : Dlg) (y : Bool) (w : World) (e : Ending) (w' : World) : Prop :=
  ∃ F', e = .returned (.bool y) ∧ PrgR K w' (.pointer (some ⟨g, 0, none⟩)) F' d ∧ Far F w w' ∧ ∀ b, F' b → F b ∨ w.heap.size ≤ b
-- [HALF
set_option maxRecDepth 100000 in
set_option maxHeartbeats 8000000 in
/-- The half of a frame behind the look-up: HT is the closure's contract. -/
theorem prg_Frame (K : Nat → Prop) (w : World) (v : Value) (F : Nat → Prop) (d : Dlg) (k : Nat) (u : Value) (S : List Nat) (hR : PrgR K w v F d) (hok : DlgOk d) (hk : k < 256) (hr : Row .u8 w u S) (hB : Bytes S) (hl : S.length ≤ 100000) :
    Calls Tryz.prog 18 #[v, .agg #[.int .u8 (k : Nat), u]] w fun e w' => ∃ F', e = .returned (.bool (d.hear (heardOf k S).1 (heardOf k S).2.1 (heardOf k S).2.2.1 (heardOf k S).2.2.2).2) ∧ PrgR K w' v F' (d.hear (heardOf k S).1 (heardOf k S).2.1 (heardOf k S).2.2.1 (heardOf k S).2.2.2).1 ∧ Far F w w' ∧ ∀ b, F' b → F b ∨ w.heap.size ≤ b := by
  obtain ⟨g, L, fl, E, W, rfl, hF, hp, H⟩ := hR
  have hkl := hok.kl
  have hEl : E.length + W.length ≤ 16 := by rw [hp.eq] at hkl; simp only [List.length_append] at hkl; omega
  have hdE := done_le E
  have hlE := lost_le E
  have HR := Lib.hid hr
  have hFg : ∀ b, b = g → F b := fun b e => (hF b).2 (.inl e)
  have HAN := fun q hw => ans_heard q k S hB hw
  generalize hqq : heardOf k S = qq at *
  obtain ⟨qw, qg, qc, qi⟩ := qq
  simp only at HAN ⊢
  have hhe : d.hear qw qg qc qi = (⟨(hearL qw qg qc qi d.rows).1, d.tmo, d.tries, d.now, d.came⟩, (hearL qw qg qc qi d.rows).2) := rfl
  show Calls _ _ _ _ (FrameT K g F (d.hear qw qg qc qi).1 (d.hear qw qg qc qi).2 w)
  rw [hhe]
  clear hhe hqq hok hkl
  obtain ⟨m, hm⟩ : ∃ m, (if d.came then d.now else -9223372036854775808) = m := ⟨_, rfl⟩
  rw [hm] at H
  obtain ⟨A, c, rfl, hc, _⟩ := hr
  go_enter Tryz.func18, Tryz.ntmps18
  go_upto_region 1 with fail
  obtain ⟨V, hV, gV, TV⟩ := twoC_new w (.int .u8 (k : Nat)) (.slice A S.length c) 49
  rw [hV]
  clear hV
  have TV1 := Lib.hid TV
  have HV := Lib.hid (H.grew gV)
  have GV := Lib.hid gV
  have HFL := Lib.hid (prg_Flying HV.out)
  clear TV
  cases fl with
  | none =>
    have hhr := Lib.hid (hp.hear_none qw qg qc qi)
    simp only [Option.isSome] at HFL
    go_wp2_with (go_at_call 20; refine HFL.out.mono ?_; rintro e w1 ⟨rfl, hw1⟩; subst hw1)
    go_ret
    rw [hhr.out]
    exact ⟨F, rfl, ⟨g, L, none, E, W, rfl, hF, hp, by rw [hm]; exact HV.out⟩, Far.of_grew GV.out, fun b q => .inl q⟩
  | some xr =>
    obtain ⟨x, r⟩ := xr
    have hhr := Lib.hid (hp.hear_fly qw qg qc qi)
    obtain ⟨hxg, fv, hfv⟩ := HV.out.fly x r rfl
    have may := hfv.may
    have hw0 := (hp.fly r rfl).2
    have hwait : r.c.wait = 1 ∨ r.c.wait = 2 := by have := may.2.2; omega
    have hans := HAN r.c hwait
    obtain ⟨Af, cf, rfl, hcf, _⟩ := hfv.cmd.row
    have c3 := HV.out.c3
    unfold flyV at c3
    simp only at c3
    have lt := HV.out.lt
    have lx := hfv.cmd.lt
    have q0 := hfv.cmd.c0
    have q1 := hfv.cmd.c1
    have q2 := hfv.cmd.c2
    have q3 := hfv.cmd.c3
    simp only [Nat.zero_add] at q1 q2 q3
    have KS0 : ∀ w', Grew V w' → w'.cell? ⟨g, 3, none⟩ = some (.pointer (some ⟨x, 0, none⟩)) ∧ w'.cell? ⟨x, 0, none⟩ = some (.slice Af r.c.b.length cf) ∧ w'.cell? ⟨x, 1, none⟩ = some (.int .u8 (r.c.wait : Nat)) ∧ w'.cell? ⟨x, 2, none⟩ = some (.int .u8 (r.c.cls : Nat)) ∧ w'.cell? ⟨x, 3, none⟩ = some (.int .u8 (r.c.id : Nat)) := fun w' G =>
      ⟨(G.cell (p := ⟨g, 3, none⟩) lt).trans c3, (G.cell (p := ⟨x, 0, none⟩) lx).trans q0, (G.cell (p := ⟨x, 1, none⟩) lx).trans q1, (G.cell (p := ⟨x, 2, none⟩) lx).trans q2, (G.cell (p := ⟨x, 3, none⟩) lx).trans q3⟩
    have kc := hfv.cmd.kc
    have ki := hfv.cmd.ki
    have HA := fun w => Lib.hid (prg_answers r.c Af r.c.b.length cf w)
    simp only [Option.isSome] at HFL
    clear hfv HAN may q0 q1 q2 q3 c3
    rcases hwait with hw | hw
    · rw [if_pos hw] at hans
      have HANS := Lib.hid hans
      rw [hw] at KS0 HA
      have KS := KS0
      clear hans KS0
      go_upto_region 3 with (go_at_call 20; refine HFL.out.mono ?_; rintro e w1 ⟨rfl, hw1⟩; subst hw1)
      go_cut [5, 6] (fun s t wx => ∃ (M cb : Nat), s = .func (.func 56) #[] #[.pointer (some ⟨cb, 0, none⟩)] ∧ t = .bool true ∧ Hid (AnsAt wx M cb r.c) ∧ Hid (Grew V wx))
      case first =>
        have G := (Grew.refl V).drew
        go_region_held3 (fun w' => w'.cell? ⟨g, 3, none⟩ = some (.pointer (some ⟨x, 0, none⟩)) ∧ w'.cell? ⟨x, 0, none⟩ = some (.slice Af r.c.b.length cf) ∧ w'.cell? ⟨x, 1, none⟩ = some (.int .u8 ((1 : Nat) : Int)) ∧ w'.cell? ⟨x, 2, none⟩ = some (.int .u8 (r.c.cls : Nat)) ∧ w'.cell? ⟨x, 3, none⟩ = some (.int .u8 (r.c.id : Nat))) (exact KS _ G) (first | (go_at_call 42; refine (HA _).out.mono ?_; rintro e w2 ⟨M, cb, rfl, hM, g2⟩; replace G := G.trans g2; have HM := Lib.hid hM; have hlk := hM.look1; clear hM g2))
        go_wp2_with fail
        go_meet
        case rel => exact ⟨M, cb, rfl, rfl, HM, Lib.hid G⟩
      case rest =>
        obtain ⟨M, cb, rfl, rfl, HM, HG⟩ := hcut
        obtain ⟨wX, hwX⟩ : ∃ x, x = wc := ⟨_, rfl⟩
        subst hwX
        have H4 := Lib.hid (HV.out.grew HG.out)
        obtain ⟨_, s0, s1, _, _⟩ := TV1.out.grew HG.out
        have HC := Lib.hid (prg_ans1 cb r.c k (.slice A S.length c) S wX HM.out.lt HM.out.c2 HM.out.c3 kc ki hk (HR.out.grew (GV.out.trans HG.out)) hB hl)
        obtain ⟨n, hn⟩ : ∃ n, aUbx r.c k S = n := ⟨_, rfl⟩
        rw [hn] at HC HANS
        have GA := Lib.hid (GV.out.trans HG.out)
        clear hn HM TV1 KS HA lx
        by_cases hby : heardBy qw qc qi r.c
        · cases qg with
          | true =>
            obtain rfl : n = 1 := by have := HANS.out; rwa [if_pos hby, if_pos rfl] at this
            have hre := Lib.hid (hhr.out.trans (if_pos hby))
            have e1 : IntKind.i64.wrap ((doneOf E : Int) + 1) = (doneOf E : Int) + 1 := IntWalk.i64_in _ (by omega)
            clear HANS hby hhr
            go_upto_region 9 with (go_at_call 56; refine HC.out.mono ?_; rintro e w5 ⟨rfl, g5⟩; have H5 := Lib.hid (H4.out.grew g5); obtain ⟨l5, _, _, _, u3, u4, u5, _, _, v3, v4, v5, _⟩ := (H5.out).seven)
            go_wp2_with fail
            go_ret
            obtain ⟨H6, F6⟩ := H5.out.doneAt (by omega)
            obtain ⟨n1, n2⟩ := turned_done E r
            rw [hre.out]
            exact ⟨ownSet g none, rfl, ⟨g, L, none, E ++ [turnedOf 2 r], W, rfl, fun b => Iff.rfl, hp.turned 2 (by decide), by rw [n1, n2, hm]; exact H6⟩, (Far.of_grew (GA.out.trans g5)).trans (F6.mono (fun b _ q => hFg b q)), fun b q => .inl (hFg b (ownSet_none b q))⟩
          | false =>
            obtain rfl : n = 2 := by have := HANS.out; rwa [if_pos hby, if_neg (by decide)] at this
            have hre := Lib.hid (hhr.out.trans (if_pos hby))
            have e1 : IntKind.i64.wrap ((lostOf E : Int) + 1) = (lostOf E : Int) + 1 := IntWalk.i64_in _ (by omega)
            clear HANS hby hhr
            go_upto_region 11 with (go_at_call 56; refine HC.out.mono ?_; rintro e w5 ⟨rfl, g5⟩; have H5 := Lib.hid (H4.out.grew g5); obtain ⟨l5, _, _, _, u3, u4, u5, _, _, v3, v4, v5, _⟩ := (H5.out).seven)
            go_wp2_with fail
            go_ret
            obtain ⟨H6, F6⟩ := H5.out.failAt (by omega)
            obtain ⟨n1, n2⟩ := turned_lost E r
            rw [hre.out]
            exact ⟨ownSet g none, rfl, ⟨g, L, none, E ++ [turnedOf 3 r], W, rfl, fun b => Iff.rfl, hp.turned 3 (by decide), by rw [n1, n2, hm]; exact H6⟩, (Far.of_grew (GA.out.trans g5)).trans (F6.mono (fun b _ q => hFg b q)), fun b q => .inl (hFg b (ownSet_none b q))⟩
        · obtain rfl : n = 0 := by have := HANS.out; rwa [if_neg hby] at this
          have hre := Lib.hid (hhr.out.trans (if_neg hby))
          clear HANS hby hhr
          go_wp2_with (go_at_call 56; refine HC.out.mono ?_; rintro e w5 ⟨rfl, g5⟩)
          go_ret
          rw [hre.out]
          exact ⟨F, rfl, ⟨g, L, some (x, r), E, W, rfl, hF, hp, by rw [hm]; exact H4.out.grew g5⟩, Far.of_grew (GA.out.trans g5), fun b q => .inl q⟩
    · rw [if_neg (show ¬ r.c.wait = 1 by omega)] at hans
      have HANS := Lib.hid hans
      rw [hw] at KS0 HA
      have KS := KS0
      clear hans KS0
      go_upto_region 3 with (go_at_call 20; refine HFL.out.mono ?_; rintro e w1 ⟨rfl, hw1⟩; subst hw1)
      go_cut [5, 6] (fun s t wx => ∃ (M cb : Nat), s = .func (.func 60) #[] #[.pointer (some ⟨cb, 0, none⟩)] ∧ t = .bool true ∧ Hid (AnsAt wx M cb r.c) ∧ Hid (Grew V wx))
      case first =>
        have G := (Grew.refl V).drew
        go_region_held3 (fun w' => w'.cell? ⟨g, 3, none⟩ = some (.pointer (some ⟨x, 0, none⟩)) ∧ w'.cell? ⟨x, 0, none⟩ = some (.slice Af r.c.b.length cf) ∧ w'.cell? ⟨x, 1, none⟩ = some (.int .u8 ((2 : Nat) : Int)) ∧ w'.cell? ⟨x, 2, none⟩ = some (.int .u8 (r.c.cls : Nat)) ∧ w'.cell? ⟨x, 3, none⟩ = some (.int .u8 (r.c.id : Nat))) (exact KS _ G) (first | (go_at_call 42; refine (HA _).out.mono ?_; rintro e w2 ⟨M, cb, rfl, hM, g2⟩; replace G := G.trans g2; have HM := Lib.hid hM; have hlk := hM.look2; clear hM g2))
        go_wp2_with fail
        go_meet
        case rel => exact ⟨M, cb, rfl, rfl, HM, Lib.hid G⟩
      case rest =>
        obtain ⟨M, cb, rfl, rfl, HM, HG⟩ := hcut
        obtain ⟨wX, hwX⟩ : ∃ x, x = wc := ⟨_, rfl⟩
        subst hwX
        have H4 := Lib.hid (HV.out.grew HG.out)
        obtain ⟨_, s0, s1, _, _⟩ := TV1.out.grew HG.out
        have HC := Lib.hid (prg_ans2 cb r.c k (.slice A S.length c) S wX HM.out.lt HM.out.c3 ki hk (HR.out.grew (GV.out.trans HG.out)) hB hl)
        obtain ⟨n, hn⟩ : ∃ n, aSrf r.c k S = n := ⟨_, rfl⟩
        rw [hn] at HC HANS
        have GA := Lib.hid (GV.out.trans HG.out)
        clear hn HM TV1 KS HA lx
        by_cases hby : heardBy qw qc qi r.c
        · cases qg with
          | true =>
            obtain rfl : n = 1 := by have := HANS.out; rwa [if_pos hby, if_pos rfl] at this
            have hre := Lib.hid (hhr.out.trans (if_pos hby))
            have e1 : IntKind.i64.wrap ((doneOf E : Int) + 1) = (doneOf E : Int) + 1 := IntWalk.i64_in _ (by omega)
            clear HANS hby hhr
            go_upto_region 9 with (go_at_call 60; refine HC.out.mono ?_; rintro e w5 ⟨rfl, g5⟩; have H5 := Lib.hid (H4.out.grew g5); obtain ⟨l5, _, _, _, u3, u4, u5, _, _, v3, v4, v5, _⟩ := (H5.out).seven)
            go_wp2_with fail
            go_ret
            obtain ⟨H6, F6⟩ := H5.out.doneAt (by omega)
            obtain ⟨n1, n2⟩ := turned_done E r
            rw [hre.out]
            exact ⟨ownSet g none, rfl, ⟨g, L, none, E ++ [turnedOf 2 r], W, rfl, fun b => Iff.rfl, hp.turned 2 (by decide), by rw [n1, n2, hm]; exact H6⟩, (Far.of_grew (GA.out.trans g5)).trans (F6.mono (fun b _ q => hFg b q)), fun b q => .inl (hFg b (ownSet_none b q))⟩
          | false =>
            obtain rfl : n = 2 := by have := HANS.out; rwa [if_pos hby, if_neg (by decide)] at this
            have hre := Lib.hid (hhr.out.trans (if_pos hby))
            have e1 : IntKind.i64.wrap ((lostOf E : Int) + 1) = (lostOf E : Int) + 1 := IntWalk.i64_in _ (by omega)
            clear HANS hby hhr
            go_upto_region 11 with (go_at_call 60; refine HC.out.mono ?_; rintro e w5 ⟨rfl, g5⟩; have H5 := Lib.hid (H4.out.grew g5); obtain ⟨l5, _, _, _, u3, u4, u5, _, _, v3, v4, v5, _⟩ := (H5.out).seven)
            go_wp2_with fail
            go_ret
            obtain ⟨H6, F6⟩ := H5.out.failAt (by omega)
            obtain ⟨n1, n2⟩ := turned_lost E r
            rw [hre.out]
            exact ⟨ownSet g none, rfl, ⟨g, L, none, E ++ [turnedOf 3 r], W, rfl, fun b => Iff.rfl, hp.turned 3 (by decide), by rw [n1, n2, hm]; exact H6⟩, (Far.of_grew (GA.out.trans g5)).trans (F6.mono (fun b _ q => hFg b q)), fun b q => .inl (hFg b (ownSet_none b q))⟩
        · obtain rfl : n = 0 := by have := HANS.out; rwa [if_neg hby] at this
          have hre := Lib.hid (hhr.out.trans (if_neg hby))
          clear HANS hby hhr
          go_wp2_with (go_at_call 60; refine HC.out.mono ?_; rintro e w5 ⟨rfl, g5⟩)
          go_ret
          rw [hre.out]
          exact ⟨F, rfl, ⟨g, L, some (x, r), E, W, rfl, hF, hp, by rw [hm]; exact H4.out.grew g5⟩, Far.of_grew (GA.out.trans g5), fun b q => .inl q⟩
-- HALF]
end Go.Proofs.YtcdmbnbanopioaaGreatDoor

namespace Go.Proofs.YtcdmbnbanopioaaGreatDoor
open Go.RowKit
set_option linter.unusedVariables false

/- The laws of dialogues: ticks a timeout apart end one. -/
/-- A sum over the first so many. -/
def lsumTo {α : Type} (f : α → Nat) (l : List α) (k : Nat) : Nat := ((l.take k).map f).sum
theorem lsumTo_next {α : Type} (f : α → Nat) (l : List α) (k : Nat) (h : k < l.length) : lsumTo f l (k + 1) = lsumTo f l k + f l[k] := by
  unfold lsumTo
  rw [List.take_succ_eq_append_getElem h, List.map_append, List.sum_append]
  simp
theorem lsumTo_all {α : Type} (f : α → Nat) (l : List α) : lsumTo f l l.length = (l.map f).sum := by
  unfold lsumTo
  rw [List.take_length]
theorem lsumTo_le {α : Type} (f : α → Nat) (l : List α) (B : Nat) (hf : ∀ x ∈ l, f x ≤ B) : ∀ k, lsumTo f l k ≤ k * B
  | 0 => by simp [lsumTo]
  | k + 1 => by
    have ih := lsumTo_le f l B hf k
    by_cases h : k < l.length
    · rw [lsumTo_next f l k h, Nat.succ_mul]
      have := hf _ (List.getElem_mem h)
      omega
    · have : lsumTo f l (k + 1) = lsumTo f l k := by
        unfold lsumTo
        rw [List.take_of_length_le (by omega), List.take_of_length_le (by omega)]
      rw [this, Nat.succ_mul]
      omega
theorem split_sum : ∀ l : List Cmd, (l.map fun c => if c.wait = 0 then 1 else 0).sum + (l.map fun c => if c.wait = 0 then 0 else 1).sum = l.length
  | [] => rfl
  | c :: l => by
    have ih := split_sum l
    simp only [List.map_cons, List.sum_cons, List.length_cons]
    split <;> omega
/-- What stands behind as many ticks as all tries, and one. -/
theorem ends_all (cs : List Cmd) (tmo : Int) (tries : Nat) (ht : 0 < tries) (hp : 0 < tmo) (W : Nat) (hW : wantOf tries cs = W) :
    (ticksTo (dlgNew cs tmo tries) (W + 1)).2 = W ∧ doneOf (ticksTo (dlgNew cs tmo tries) (W + 1)).1.rows = (cs.map fun c => if c.wait = 0 then 1 else 0).sum ∧ lostOf (ticksTo (dlgNew cs tmo tries) (W + 1)).1.rows = (cs.map fun c => if c.wait = 0 then 0 else 1).sum ∧ leftOf (ticksTo (dlgNew cs tmo tries) (W + 1)).1.rows = 0 ∧ flyOf (ticksTo (dlgNew cs tmo tries) (W + 1)).1.rows = false := by
  obtain ⟨⟨_, _, e3⟩, _, _, _, _, hs, he⟩ := ticks_going cs tmo tries ht hp (W + 1)
  rw [hW] at hs he
  obtain ⟨c1, c2, c3, c4⟩ := ended_counts _ (he (by omega))
  rw [e3] at c1 c2
  exact ⟨by rw [hs]; omega, c1, c2, c3, c4⟩
theorem opsAt_nil (w : World) : OpsAt w (.slice none 0 0) [] := ⟨none, 0, rfl, Nat.le_refl _, fun h => absurd h (Nat.lt_irrefl _)⟩
-- [ENDS
/-- The program's dialogue beside the document's: neither stands where the other one does. -/
structure Lies (R : (Nat → Prop) → World → Value → (Nat → Prop) → Dlg → Prop) (X : Nat → Prop) (K : Nat → Prop) (w wr : World) (v : Value) (F : Nat → Prop) (g : Nat) (L : Value) (d1 d2 : Dlg) : Prop where
  prog : R K wr v F d1
  doc : DlgAt X wr g L d2
  grew : Grew w wr
  own : ∀ b, F b → w.heap.size ≤ b
  kow : ∀ b, K b → w.heap.size ≤ b
  kg : ¬ K g
  kl : ∀ b, L.ownBlock = some b → ¬ K b
  gw : w.heap.size ≤ g
  lw : ∀ b, L.ownBlock = some b → w.heap.size ≤ b
  ng : ¬ F g
  nl : ∀ b, L.ownBlock = some b → ¬ F b
  hX : ∀ b, X b → b < w.heap.size
section
variable {R : (Nat → Prop) → World → Value → (Nat → Prop) → Dlg → Prop} {X K : Nat → Prop} {w wr w' : World} {v : Value} {F F' : Nat → Prop} {g : Nat} {L L' : Value} {d1 d2 d' : Dlg}
theorem Lies.progs (C : DlgCalls R) (h : Lies R X K w wr v F g L d1 d2) {v' : Value} (hR : R K w' v' F' d') (hf : Far F wr w') (hs : ∀ b, F' b → F b ∨ wr.heap.size ≤ b) : Lies R X K w w' v' F' g L d' d2 := by
  have hg := h.doc.lt
  refine ⟨hR, h.doc.far hf h.ng h.nl (fun b hb e => by have := h.hX b hb; have := h.own b e; omega), hf.grew h.grew h.own, own_next hs h.own h.grew.size, h.kow, h.kg, h.kl, h.gw, h.lw, fun e => ?_, fun b hb e => ?_, h.hX⟩
  · rcases hs g e with q | q
    · exact h.ng q
    · omega
  · rcases hs b e with q | q
    · exact h.nl b hb q
    · have := (h.doc.own b hb).1; omega
theorem Lies.docs (C : DlgCalls R) (h : Lies R X K w wr v F g L d1 d2) (hD : DlgAt X w' g L' d') (hf : Far (fun k => k = g) wr w') (hL : ∀ b, L'.ownBlock = some b → L.ownBlock = some b ∨ wr.heap.size ≤ b) : Lies R X K w w' v F g L' d1 d' := by
  have hF : ∀ b, F b ∨ K b → ¬ b = g := by
    intro b hb e
    subst e
    rcases hb with hb | hb
    · exact h.ng hb
    · exact h.kg hb
  refine ⟨C.far h.prog hf hF, hD, hf.grew h.grew (fun b e => by rw [show b = g from e]; exact h.gw), h.own, h.kow, h.kg, fun b hb e => ?_, h.gw, fun b hb => ?_, h.ng, fun b hb e => ?_, h.hX⟩
  · rcases hL b hb with q | q
    · exact h.kl b q e
    · have := C.lt h.prog b (.inr e); omega
  · rcases hL b hb with q | q
    · exact h.lw b q
    · have := h.grew.size; omega
  · rcases hL b hb with q | q
    · exact h.nl b q e
    · have := C.lt h.prog b (.inl e); omega
theorem Lies.grown (C : DlgCalls R) (h : Lies R X K w wr v F g L d1 d2) (k : Grew wr w') : Lies R X K w w' v F g L d1 d2 :=
  ⟨C.far h.prog (Far.of_grew (F := fun _ => False) k) (fun _ _ q => q), h.doc.grew k, h.grew.trans k, h.own, h.kow, h.kg, h.kl, h.gw, h.lw, h.ng, h.nl, h.hX⟩
end
/-- Commands as cells side by side. -/
def cmdCells (c : Cmd) (v : Value) : List Value := [v, .int .u8 (c.wait : Nat), .int .u8 (c.cls : Nat), .int .u8 (c.id : Nat)]
def flatK : List Cmd → List Value → List Value
  | c :: cs, v :: vs => cmdCells c v ++ flatK cs vs
  | _, _ => []
theorem flatK_append : ∀ (cs : List Cmd) (vs : List Value) (c : Cmd) (v : Value), vs.length = cs.length → flatK (cs ++ [c]) (vs ++ [v]) = flatK cs vs ++ cmdCells c v
  | [], [], c, v, _ => by simp [flatK]
  | _ :: _, [], _, _, h => by simp at h
  | [], _ :: _, _, _, h => by simp at h
  | a :: cs, b :: vs, c, v, h => by
    rw [List.cons_append, List.cons_append, flatK, flatK_append cs vs c v (by simpa using h), flatK, List.append_assoc]
theorem flatK_get : ∀ (cs : List Cmd) (vs : List Value) (i j : Nat) (c : Cmd) (v : Value), cs[i]? = some c → vs[i]? = some v → j < 4 → (flatK cs vs)[i * 4 + j]? = (cmdCells c v)[j]?
  | [], vs, i, j, c, v, h, _, _ => by simp at h
  | _ :: _, [], i, j, c, v, _, h, _ => by simp at h
  | c' :: cs, v' :: vs, 0, j, c, v, h, h2, hj => by
    simp only [List.getElem?_cons_zero, Option.some.injEq] at h h2
    subst h h2
    rw [flatK, List.getElem?_append_left (by show 0 * 4 + j < 4; omega), Nat.zero_mul, Nat.zero_add]
  | c' :: cs, v' :: vs, i + 1, j, c, v, h, h2, hj => by
    rw [flatK, List.getElem?_append_right (by show 4 ≤ (i + 1) * 4 + j; omega), show (i + 1) * 4 + j - (cmdCells c' v').length = i * 4 + j from by show (i + 1) * 4 + j - 4 = _; omega]
    exact flatK_get cs vs i j c v (by simpa using h) (by simpa using h2) hj
/-- A list of commands of the call's own, from block B on, with bytes of its own. -/
structure InAt (w : World) (B k : Nat) (v : Value) (cs : List Cmd) (vs : List Value) : Prop where
  own : w.ownsRow B 27 4 v k (flatK cs vs)
  len : vs.length = k ∧ cs.length = k
  byt : ∀ (i : Nat) (c : Cmd) (fv : Value), cs[i]? = some c → vs[i]? = some fv → Own B 5 .u8 w fv c.b
theorem infoCmd : (Tryz.prog.info? 27).map (fun i => (i.zero, i.size, i.bytes)) = some (some (.agg #[.slice none 0 0, .int .u8 0, .int .u8 0, .int .u8 0]), 4, 32) := by kernel_rfl
theorem InAt.cmds {w : World} {B k : Nat} {v : Value} {cs : List Cmd} {vs : List Value} (h : InAt w B k v cs vs) (hk : ∀ c ∈ cs, c.wait < 256 ∧ c.cls < 256 ∧ c.id < 256) : CmdsAt (fun b => B ≤ b ∧ b < w.heap.size) w v cs := by
  obtain ⟨_, A, c, e, hc, hr⟩ := CellsAt.of_own h.own
  refine ⟨A, c, by rw [h.len.2]; exact e, by rw [h.len.2]; exact hc, fun hn => ?_⟩
  obtain ⟨b, o, rfl, hb, hcell⟩ := hr (by rw [← h.len.2]; exact hn)
  refine ⟨b, o, rfl, fun i q hi => ?_⟩
  have hil := (List.getElem?_eq_some_iff.1 hi).1
  have hiv : i < vs.length := by rw [h.len.1, ← h.len.2]; exact hil
  have e2 := List.getElem?_eq_getElem hiv
  have hB := h.byt i q _ hi e2
  have hkq := hk q (List.mem_of_getElem? hi)
  have hg : ∀ j x, j < 4 → (cmdCells q vs[i])[j]? = some x → w.cell? ⟨b, o + i * 4 + j, none⟩ = some x := fun j x hj hx => by
    rw [Nat.add_assoc]
    exact hcell _ _ ((flatK_get cs vs i j q _ hi e2 hj).trans hx)
  exact ⟨vs[i], ⟨hb, hg 0 _ (by omega) rfl, hg 1 _ (by omega) rfl, hg 2 _ (by omega) rfl, hg 3 _ (by omega) rfl, hB.row, hkq.1, hkq.2.1, hkq.2.2⟩, fun _ b hb => hB.lt b hb⟩
theorem Own.cellD {w : World} {B : Nat} {E : TypeId} {k : IntKind} {g c n : Nat} {ns : List Nat} (h : Own B E k w (.slice (some ⟨g, 0, none⟩) n c) ns) (hn : n = ns.length) (j : Nat) (hj : j < ns.length) : w.cell? ⟨g, j, none⟩ = some (.int k (wd ns j : Nat)) ∧ w.frozen? ⟨g, j, none⟩ = false := by
  subst hn
  unfold Own at h
  refine ⟨?_, World.ownsRow.frozenAt h j⟩
  rw [World.ownsRow.cellAt h j (by omega)]
  simp [cellsOf, wd, hj]
/-- What New, may and the writes leave of it: each first byte may be written over. -/
def Writes (w : World) (B U : Nat) (v : Value) (n : Nat) : Prop :=
  U ≤ w.heap.size ∧ ∃ A c, v = .slice A n c ∧ n ≤ c ∧ (0 < n → ∃ g, A = some ⟨g, 0, none⟩ ∧ g < w.heap.size ∧ ∀ i, i < n → ∃ b m cap x, w.cell? ⟨g, i * 4, none⟩ = some (.slice (some ⟨b, 0, none⟩) m cap) ∧ 0 < m ∧ w.cell? ⟨b, 0, none⟩ = some (.int .u8 x) ∧ w.frozen? ⟨b, 0, none⟩ = false ∧ B ≤ b ∧ b < U ∧ b ≠ g)
theorem Writes.grew {w w' : World} {B U n : Nat} {v : Value} (h : Writes w B U v n) (k : Grew w w') : Writes w' B U v n := by
  obtain ⟨hU, A, c, rfl, hc, hr⟩ := h
  refine ⟨Nat.le_trans hU k.size, A, c, rfl, hc, fun hn => ?_⟩
  obtain ⟨g, rfl, hg, hf⟩ := hr hn
  refine ⟨g, rfl, Nat.lt_of_lt_of_le hg k.size, fun i hi => ?_⟩
  obtain ⟨b, m, cap, x, h1, h2, h3, h4, h5, h6, h7⟩ := hf i hi
  have hb : b < w.heap.size := by omega
  exact ⟨b, m, cap, x, (k.cell (p := ⟨g, i * 4, none⟩) hg).trans h1, h2, (k.cell (p := ⟨b, 0, none⟩) hb).trans h3, (k.frozen (p := ⟨b, 0, none⟩) hb).trans h4, h5, h6, h7⟩
theorem Writes.put {w : World} {B U n b : Nat} {v : Value} (h : Writes w B U v n) (y : Int) (hb : ∀ g c, v = .slice (some ⟨g, 0, none⟩) n c → b ≠ g) : Writes (w.setCell ⟨b, 0, none⟩ (.int .u8 y)) B U v n := by
  obtain ⟨hU, A, c, rfl, hc, hr⟩ := h
  refine ⟨by simpa [World.setCell] using hU, A, c, rfl, hc, fun hn => ?_⟩
  obtain ⟨g, rfl, hg, hf⟩ := hr hn
  refine ⟨g, rfl, by simpa [World.setCell] using hg, fun i hi => ?_⟩
  obtain ⟨b', m, cap, x, h1, h2, h3, h4, h5, h6, h7⟩ := hf i hi
  have hbg := hb g c rfl
  have n1 : (⟨b, 0, none⟩ : Addr) ≠ ⟨g, i * 4, none⟩ := fun e => hbg (by injection e)
  have f4 : (w.setCell ⟨b, 0, none⟩ (.int .u8 y)).frozen? ⟨b', 0, none⟩ = false := by simpa [go_sem] using h4
  by_cases e : b = b'
  · subst e
    exact ⟨b, m, cap, y, (World.cell?_setCell_other _ _ _ _ n1).trans h1, h2, World.cell?_setCell_same _ _ _ h3, f4, h5, h6, h7⟩
  · exact ⟨b', m, cap, x, (World.cell?_setCell_other _ _ _ _ n1).trans h1, h2, (World.cell?_setCell_other _ _ _ _ (fun q => e (by injection q))).trans h3, f4, h5, h6, h7⟩
theorem InAt.writes {w : World} {B k : Nat} {v : Value} {cs : List Cmd} {vs : List Value} (h : InAt w B k v cs vs) (hm : ∀ c ∈ cs, 0 < c.b.length) : Writes w B w.heap.size v k := by
  obtain ⟨hl, ⟨e, e0⟩ | ⟨g, cap, cur, e, hb, hh, hn, hmx, hc, ht⟩⟩ := h.own
  · exact ⟨Nat.le_refl _, none, 0, by rw [e, e0], by omega, fun q => by omega⟩
  · refine ⟨Nat.le_refl _, _, cap, e, hn, fun hp => ⟨g, rfl, (Array.getElem?_eq_some_iff.1 hh).1, fun i hi => ?_⟩⟩
    have hic : i < cs.length := by rw [h.len.2]; exact hi
    have e1 := List.getElem?_eq_getElem hic
    have hiv : i < vs.length := by rw [h.len.1]; exact hi
    have e2 := List.getElem?_eq_getElem hiv
    have hB := h.byt i _ _ e1 e2
    have hpos := hm _ (List.getElem_mem hic)
    obtain ⟨_, A, c', e3, hc3, hr⟩ := CellsAt.of_own h.own
    rw [e] at e3
    cases e3
    obtain ⟨b0, o0, e4, hlt, hcell⟩ := hr (by omega)
    cases e4
    have hcl := hcell (i * 4 + 0) _ ((flatK_get cs vs i 0 _ _ e1 e2 (by omega)).trans rfl)
    rw [Nat.zero_add, Nat.add_zero] at hcl
    have hf2 : vs[i] ≠ .slice none 0 0 := fun q => by
      rw [q] at hB
      obtain ⟨A, c, e5, hc5, _⟩ := hB.row
      simp only [Value.slice.injEq] at e5
      omega
    obtain ⟨b, cc, e5, hb5, hlt5, hm5⟩ := hB.head hf2
    rw [e5] at hcl hB
    obtain ⟨x1, x2⟩ := hB.cellD rfl 0 hpos
    refine ⟨b, _, cc, _, hcl, hpos, x1, x2, hb5, hlt5, fun q => ?_⟩
    subst q
    rcases hB.2 with ⟨q, _⟩ | ⟨b', cap', cur', q, hb', hh', _⟩
    · cases q
    · cases q
      rw [hh] at hh'
      simp at hh'
end Go.Proofs.YtcdmbnbanopioaaGreatDoor

namespace Go.Proofs.YtcdmbnbanopioaaGreatDoor
open Go.RowKit
set_option linter.unusedVariables false

/- The program's dialogue: New: which commands may be; the list is copied, each command's bytes too. -/
theorem flatK_length : ∀ (cs : List Cmd) (vs : List Value), vs.length = cs.length → (flatK cs vs).length = cs.length * 4
  | [], [], _ => rfl
  | [], _ :: _, h => by simp at h
  | _ :: _, [], h => by simp at h
  | c :: cs, v :: vs, h => by
    rw [flatK, List.length_append, flatK_length cs vs (by simpa using h), List.length_cons]
    show 4 + _ = _
    omega
theorem flatK_one : ∀ (cs : List Cmd) (vs : List Value), (∀ v ∈ vs, v.oneCell' = true) → ∀ x ∈ flatK cs vs, x.oneCell' = true
  | [], vs, _, x, h => by simp [flatK] at h
  | _ :: _, [], _, x, h => by simp [flatK] at h
  | c :: cs, v :: vs, hs, x, h => by
    rw [flatK] at h
    rcases List.mem_append.1 h with h | h
    · simp [cmdCells] at h
      rcases h with rfl | rfl | rfl | rfl
      · exact hs _ (by simp)
      · rfl
      · rfl
      · rfl
    · exact flatK_one cs vs (fun u hu => hs u (by simp [hu])) x h
theorem CmdsAt.flat {X : Nat → Prop} {w : World} {v : Value} {cs : List Cmd} (h : CmdsAt X w v cs) :
    ∃ vs, vs.length = cs.length ∧ CellsAt w 4 v cs.length (flatK cs vs) ∧ ∀ v ∈ vs, v.oneCell' = true := by
  obtain ⟨A, c, rfl, hc, hr⟩ := h
  rcases Nat.eq_zero_or_pos cs.length with h0 | hp
  · obtain rfl := List.eq_nil_of_length_eq_zero h0
    exact ⟨[], rfl, ⟨rfl, A, c, rfl, hc, fun h => absurd h (Nat.lt_irrefl _)⟩, fun v h => by simp at h⟩
  · obtain ⟨b, o, rfl, hf⟩ := hr hp
    have hall : ∀ i : Fin cs.length, ∃ fv, CmdIn w b (o + i.1 * 4) cs[i.1] fv := fun i => by
      obtain ⟨fv, h1, _⟩ := hf i.1 _ (List.getElem?_eq_getElem i.2)
      exact ⟨fv, h1⟩
    obtain ⟨f, hf⟩ := Classical.axiomOfChoice hall
    have hl : (List.ofFn f).length = cs.length := List.length_ofFn
    have hget : ∀ (i : Nat) (r : Cmd) (fv : Value), cs[i]? = some r → (List.ofFn f)[i]? = some fv → CmdIn w b (o + i * 4) r fv := by
      intro i r fv h1 h2
      obtain ⟨hi, rfl⟩ := List.getElem?_eq_some_iff.1 h1
      obtain ⟨hi2, rfl⟩ := List.getElem?_eq_some_iff.1 h2
      rw [List.getElem_ofFn]
      exact hf ⟨i, hi⟩
    refine ⟨List.ofFn f, hl, ⟨flatK_length _ _ hl, _, c, rfl, hc, fun _ => ⟨b, o, rfl, (hf ⟨0, hp⟩).lt, ?_⟩⟩, ?_⟩
    · intro k x hk
      have hk2 : k < cs.length * 4 := by rw [← flatK_length _ _ hl]; exact (List.getElem?_eq_some_iff.1 hk).1
      have hi : k / 4 < cs.length := by omega
      have hj : k % 4 < 4 := by omega
      have e1 := List.getElem?_eq_getElem hi
      have e2 := List.getElem?_eq_getElem (show k / 4 < (List.ofFn f).length by omega)
      have e := flatK_get cs (List.ofFn f) (k / 4) (k % 4) _ _ e1 e2 hj
      rw [show k / 4 * 4 + k % 4 = k by omega, hk] at e
      have hd := hget _ _ _ e1 e2
      generalize cs[k / 4] = r at *
      generalize (List.ofFn f)[k / 4] = fv at *
      obtain ⟨q, hq⟩ : ∃ q, k / 4 = q := ⟨_, rfl⟩
      obtain ⟨t, ht⟩ : ∃ t, k % 4 = t := ⟨_, rfl⟩
      rw [hq] at hd
      rw [ht] at e hj
      rw [show o + k = o + q * 4 + t by omega]
      match t, hj, e with
      | 0, _, e => simp [cmdCells] at e; subst e; exact hd.c0
      | 1, _, e => simp [cmdCells] at e; subst e; exact hd.c1
      | 2, _, e => simp [cmdCells] at e; subst e; exact hd.c2
      | 3, _, e => simp [cmdCells] at e; subst e; exact hd.c3
    · intro v hv
      obtain ⟨i, hi, rfl⟩ := List.getElem_of_mem hv
      rw [List.getElem_ofFn]
      obtain ⟨A, c, e, _⟩ := (hf ⟨i, by rw [← hl]; exact hi⟩).row
      rw [e]
      rfl
/-- The call's own list of commands, of which the first k have bytes of their own. -/
def OwnCmds (B : Nat) (w : World) (L : Value) (cs : List Cmd) (k : Nat) : Prop :=
  ∃ A cap, L = .slice A cs.length cap ∧ cs.length ≤ cap ∧ (∀ b, L.ownBlock = some b → B ≤ b ∧ b < w.heap.size) ∧ (0 < cs.length → ∃ g1, A = some ⟨g1, 0, none⟩ ∧ g1 < w.heap.size ∧ B ≤ g1 ∧
    ∀ i c, cs[i]? = some c → ∃ v, w.cell? ⟨g1, i * 4, none⟩ = some v ∧ w.cell? ⟨g1, i * 4 + 1, none⟩ = some (.int .u8 (c.wait : Nat)) ∧ w.cell? ⟨g1, i * 4 + 2, none⟩ = some (.int .u8 (c.cls : Nat)) ∧ w.cell? ⟨g1, i * 4 + 3, none⟩ = some (.int .u8 (c.id : Nat)) ∧ w.frozen? ⟨g1, i * 4, none⟩ = false ∧
      (i < k → Row .u8 w v c.b ∧ ∀ b, v.ownBlock = some b → B ≤ b ∧ b < w.heap.size ∧ b ≠ g1))
theorem OwnCmds.grew {B : Nat} {w w' : World} {L : Value} {cs : List Cmd} {k : Nat} (h : OwnCmds B w L cs k) (g : Grew w w') : OwnCmds B w' L cs k := by
  obtain ⟨A, cap, rfl, hc, hb, hr⟩ := h
  refine ⟨A, cap, rfl, hc, fun b e => ⟨(hb b e).1, Nat.lt_of_lt_of_le (hb b e).2 g.size⟩, fun hp => ?_⟩
  obtain ⟨g1, rfl, l1, l2, hf⟩ := hr hp
  refine ⟨g1, rfl, Nat.lt_of_lt_of_le l1 g.size, l2, fun i c hi => ?_⟩
  obtain ⟨v, c0, c1, c2, c3, fz, hk⟩ := hf i c hi
  exact ⟨v, (g.cell (p := ⟨g1, i * 4, none⟩) l1).trans c0, (g.cell (p := ⟨g1, i * 4 + 1, none⟩) l1).trans c1, (g.cell (p := ⟨g1, i * 4 + 2, none⟩) l1).trans c2, (g.cell (p := ⟨g1, i * 4 + 3, none⟩) l1).trans c3, (g.frozen (p := ⟨g1, i * 4, none⟩) l1).trans fz, fun q => ⟨(hk q).1.grew g, fun b e => ⟨((hk q).2 b e).1, Nat.lt_of_lt_of_le ((hk q).2 b e).2.1 g.size, ((hk q).2 b e).2.2⟩⟩⟩
/-- The next one's bytes are laid. -/
theorem OwnCmds.put {B g1 cap : Nat} {w : World} {cs : List Cmd} {k : Nat} (h : OwnCmds B w (.slice (some ⟨g1, 0, none⟩) cs.length cap) cs k) (hk : k < cs.length) {fv : Value} (hr : Row .u8 w fv cs[k].b) (hb : ∀ b, fv.ownBlock = some b → B ≤ b ∧ b < w.heap.size ∧ b ≠ g1) :
    OwnCmds B (w.setCell ⟨g1, k * 4, none⟩ fv) (.slice (some ⟨g1, 0, none⟩) cs.length cap) cs (k + 1) := by
  obtain ⟨A, cap', e, hc, hbb, hrr⟩ := h
  simp only [Value.slice.injEq, true_and] at e
  obtain ⟨rfl, rfl⟩ := e
  have F := Far.one w ⟨g1, k * 4, none⟩ fv
  refine ⟨_, _, rfl, hc, fun b e => ⟨(hbb b e).1, Nat.lt_of_lt_of_le (hbb b e).2 F.size⟩, fun hp => ?_⟩
  obtain ⟨g', e, l1, l2, hf⟩ := hrr hp
  cases e
  refine ⟨g1, rfl, Nat.lt_of_lt_of_le l1 F.size, l2, fun i c hi => ?_⟩
  obtain ⟨v, c0, c1, c2, c3, fz, hk1⟩ := hf i c hi
  have ne : ∀ j, j ≠ k * 4 → (⟨g1, k * 4, none⟩ : Addr) ≠ ⟨g1, j, none⟩ := fun j hj e => hj (by injection e with _ e; exact e.symm)
  have d1 := (World.cell?_setCell_other w _ _ fv (ne (i * 4 + 1) (by omega))).trans c1
  have d2 := (World.cell?_setCell_other w _ _ fv (ne (i * 4 + 2) (by omega))).trans c2
  have d3 := (World.cell?_setCell_other w _ _ fv (ne (i * 4 + 3) (by omega))).trans c3
  have fz' : (w.setCell ⟨g1, k * 4, none⟩ fv).frozen? ⟨g1, i * 4, none⟩ = false := by simpa [go_sem] using fz
  have far : ∀ u : Value, ∀ ns, Row .u8 w u ns → (∀ b, u.ownBlock = some b → B ≤ b ∧ b < w.heap.size ∧ b ≠ g1) → Row .u8 (w.setCell ⟨g1, k * 4, none⟩ fv) u ns ∧ ∀ b, u.ownBlock = some b → B ≤ b ∧ b < (w.setCell ⟨g1, k * 4, none⟩ fv).heap.size ∧ b ≠ g1 := fun u ns h1 h2 =>
    ⟨h1.far F (fun b e q => (h2 b e).2.2 q), fun b e => ⟨(h2 b e).1, Nat.lt_of_lt_of_le (h2 b e).2.1 F.size, (h2 b e).2.2⟩⟩
  by_cases e : i = k
  · subst e
    rw [List.getElem?_eq_getElem hk] at hi
    cases hi
    exact ⟨fv, World.cell?_setCell_same _ _ _ c0, d1, d2, d3, fz', fun _ => far _ _ hr hb⟩
  · exact ⟨v, (World.cell?_setCell_other w _ _ fv (ne (i * 4) (by omega))).trans c0, d1, d2, d3, fz', fun q => far _ _ (hk1 (by omega)).1 (hk1 (by omega)).2⟩
/-- All laid: commands behind the list, in blocks from B on. -/
theorem OwnCmds.cmds {B U : Nat} {w : World} {L : Value} {cs : List Cmd} (h : OwnCmds B w L cs cs.length) (hk : ∀ c ∈ cs, c.wait < 256 ∧ c.cls < 256 ∧ c.id < 256) (hU : w.heap.size ≤ U) : CmdsAt (fun b => B ≤ b ∧ b < U) w L cs ∧ ∀ b, L.ownBlock = some b → B ≤ b ∧ b < U := by
  obtain ⟨A, cap, rfl, hc, hb, hr⟩ := h
  refine ⟨⟨A, cap, rfl, hc, fun hp => ?_⟩, fun b e => ⟨(hb b e).1, Nat.lt_of_lt_of_le (hb b e).2 hU⟩⟩
  obtain ⟨g1, rfl, l1, l2, hf⟩ := hr hp
  refine ⟨g1, 0, rfl, fun i c hi => ?_⟩
  have hl := (List.getElem?_eq_some_iff.1 hi).1
  obtain ⟨v, c0, c1, c2, c3, fz, hk1⟩ := hf i c hi
  obtain ⟨h1, h2⟩ := hk1 hl
  have hkc := hk c (List.mem_of_getElem? hi)
  exact ⟨v, ⟨l1, by rw [Nat.zero_add]; exact c0, by rw [Nat.zero_add]; exact c1, by rw [Nat.zero_add]; exact c2, by rw [Nat.zero_add]; exact c3, h1, hkc.1, hkc.2.1, hkc.2.2⟩, fun _ b e => ⟨(h2 b e).1, Nat.lt_of_lt_of_le (h2 b e).2.1 hU⟩⟩
-- [MAYNOT
set_option maxRecDepth 100000 in
set_option maxHeartbeats 4000000 in
theorem prg_mayNotBe (q : Cmd) (v : Value) (w : World) (hr : Row .u8 w v q.b) (hw : q.wait < 256) (hl : q.b.length ≤ 100000) :
    Calls Tryz.prog 35 #[.agg #[v, .int .u8 (q.wait : Nat), .int .u8 (q.cls : Nat), .int .u8 (q.id : Nat)]] w fun e w' => e = .returned (.bool (!decide (mayCmd q))) ∧ Grew w w' := by
  obtain ⟨A, c, rfl, hc, _⟩ := hr
  go_enter Tryz.func35, Tryz.ntmps35
  go_upto_region 1 with fail
  obtain ⟨V, hV⟩ : ∃ V, w.alloc (.cells #[.slice A q.b.length c, .int .u8 (q.wait : Nat), .int .u8 (q.cls : Nat), .int .u8 (q.id : Nat)] 27) = V := ⟨_, rfl⟩
  have G := Lib.hid (show Grew w V by rw [← hV]; exact (Grew.refl w).alloc _)
  have lp : w.heap.size < V.heap.size := by rw [← hV]; simp
  have v0 : V.cell? ⟨w.heap.size, 0, none⟩ = some (.slice A q.b.length c) := by rw [← hV]; simp [go_sem]
  have v1 : V.cell? ⟨w.heap.size, 1, none⟩ = some (.int .u8 (q.wait : Nat)) := by rw [← hV]; simp [go_sem]
  rw [hV]
  clear hV
  obtain ⟨n, hn⟩ : ∃ n, q.b.length = n := ⟨_, rfl⟩
  obtain ⟨k, hk⟩ : ∃ k, q.wait = k := ⟨_, rfl⟩
  have hm : Hid (decide (mayCmd q) = decide (0 < n ∧ n ≤ 1040 ∧ k < 3)) := Lib.hid (decide_eq_decide.2 (by unfold mayCmd; rw [hn, hk]))
  rw [hn] at v0 hl hc
  rw [hk] at v1 hw
  simp only [hn, hk]
  clear hn hk
  by_cases a1 : 0 < n
  · have n1 : ((n : Int) == 0) = false := by rw [beq_eq_false_iff_ne]; omega
    have n1' : ¬ (n : Int) = 0 := by omega
    by_cases a2 : n ≤ 1040
    · have n2 : decide ((1040 : Int) < n) = false := decide_eq_false (by omega)
      have n2' : ¬ (1040 : Int) < n := by omega
      by_cases a3 : k < 3
      · have hx : Hid (decide (mayCmd q) = true) := Lib.hid (by rw [hm.out]; exact decide_eq_true ⟨a1, a2, a3⟩)
        have n3 : decide ((2 : Int) < k) = false := decide_eq_false (by omega)
        go_wp2_with fail
        go_ret
        exact ⟨by rw [hx.out]; simp, G.out⟩
      · have hx : Hid (decide (mayCmd q) = false) := Lib.hid (by rw [hm.out]; exact decide_eq_false (fun y => a3 y.2.2))
        have n3 : decide ((2 : Int) < k) = true := decide_eq_true (by omega)
        go_wp2_with fail
        go_ret
        exact ⟨by rw [hx.out]; simp, G.out⟩
    · have n2 : decide ((1040 : Int) < n) = true := decide_eq_true (by omega)
      have n2' : (1040 : Int) < n := by omega
      have hx : Hid (decide (mayCmd q) = false) := Lib.hid (by rw [hm.out]; exact decide_eq_false (fun y => a2 y.2.1))
      go_wp2_with fail
      go_ret
      exact ⟨by rw [hx.out]; rfl, G.out⟩
  · obtain rfl : n = 0 := by omega
    have hx : Hid (decide (mayCmd q) = false) := Lib.hid (by rw [hm.out]; exact decide_eq_false (fun y => a1 y.1))
    go_wp2_with fail
    go_ret
    exact ⟨by rw [hx.out]; rfl, G.out⟩
-- MAYNOT]
-- [INDEX
set_option maxRecDepth 100000 in
set_option maxHeartbeats 4000000 in
theorem prg_indexFunc (X : Nat → Prop) (v : Value) (cs : List Cmd) (w : World) (h : CmdsAt X w v cs) (hl : cs.length ≤ 20) (hk : ∀ c ∈ cs, c.wait < 256 ∧ c.b.length ≤ 100000) :
    Calls Tryz.prog 55 #[v, .func (.func 35) #[] #[]] w fun e w' => (∃ z : Int, e = .returned (.int .i64 z) ∧ decide (0 ≤ z) = !decide (∀ c ∈ cs, mayCmd c)) ∧ Grew w w' := by
  have H := Lib.hid h
  have HK := Lib.hid hk
  obtain ⟨A, c, rfl, hc, _⟩ := h
  clear hk
  go_enter Tryz.func55, Tryz.ntmps55
  go_wp2_with fail
  go_loopw [8] (fun i wr => ∃ k : Nat, k ≤ cs.length ∧ i = .int .i64 (k : Nat) ∧ Hid (∀ j r, cs[j]? = some r → j < k → mayCmd r) ∧ Hid (Grew w wr)) (fun i _ => cs.length - (intOf i).toNat)
  case atStart => exact ⟨0, Nat.zero_le _, rfl, Lib.hid (fun j r _ h => absurd h (Nat.not_lt_zero _)), Lib.hid (Grew.refl _)⟩
  case round =>
    obtain ⟨k, hk, rfl, HA, G⟩ := hrel
    by_cases hlt : k < cs.length
    · obtain ⟨b, o, cc, fv, e, _, hd, _⟩ := (H.out.grew G.out).at_ k hlt
      cases e
      have q0 := hd.c0
      have q1 := hd.c1
      have q2 := hd.c2
      have q3 := hd.c3
      have hbw := hd.lt
      have hm := HK.out _ (List.getElem_mem hlt)
      have HMN := Lib.hid (prg_mayNotBe cs[k] fv wr hd.row hm.1 hm.2)
      obtain ⟨A3, c3, rfl, hc3, _⟩ := hd.row
      have hki : (k : Int) < cs.length := by omega
      have hget := Lib.hid (List.getElem?_eq_getElem hlt)
      have hmem := Lib.hid (List.getElem_mem hlt)
      clear hd
      generalize cs[k] = q at *
      by_cases hq : mayCmd q
      · rw [decide_eq_true hq] at HMN
        go_wp2_with (go_at_call 35; refine HMN.out.mono ?_; rintro e w2 ⟨rfl, g2⟩; have G2 := Lib.hid (G.out.trans g2))
        go_round
        case rel => exact ⟨k + 1, by omega, by go_num, Lib.hid (fun j r hj hjk => by
          by_cases e : j = k
          · subst e; rw [hget.out] at hj; cases hj; exact hq
          · exact HA.out j r hj (by omega)), G2⟩
        case measure => simp [intOf]; omega
      · rw [decide_eq_false hq] at HMN
        go_wp2_with (go_at_call 35; refine HMN.out.mono ?_; rintro e w2 ⟨rfl, g2⟩; have G2 := Lib.hid (G.out.trans g2))
        go_ret
        refine ⟨⟨(k : Nat), rfl, ?_⟩, G2.out⟩
        have hno : ¬ ∀ c ∈ cs, mayCmd c := fun y => hq (y q hmem.out)
        rw [decide_eq_false hno, decide_eq_true (by omega)]
        rfl
    · obtain rfl : k = cs.length := by omega
      go_wp2_with fail
      go_ret
      refine ⟨⟨-1, rfl, ?_⟩, G.out⟩
      have hyes : ∀ c ∈ cs, mayCmd c := fun c hc => by
        obtain ⟨i, hi, rfl⟩ := List.getElem_of_mem hc
        exact HA.out i _ (List.getElem?_eq_getElem hi) hi
      rw [decide_eq_true hyes]
      rfl
set_option maxRecDepth 100000 in
set_option maxHeartbeats 4000000 in
theorem prg_containsFunc (X : Nat → Prop) (v : Value) (cs : List Cmd) (w : World) (h : CmdsAt X w v cs) (hl : cs.length ≤ 20) (hk : ∀ c ∈ cs, c.wait < 256 ∧ c.b.length ≤ 100000) :
    Calls Tryz.prog 34 #[v, .func (.func 35) #[] #[]] w fun e w' => e = .returned (.bool (!decide (∀ c ∈ cs, mayCmd c))) ∧ Grew w w' := by
  have HI := Lib.hid (prg_indexFunc X v cs w h hl hk)
  clear h hk
  generalize decide (∀ c ∈ cs, mayCmd c) = r at *
  go_enter Tryz.func34, Tryz.ntmps34
  go_wp2_with (go_at_call 55; refine HI.out.mono ?_; rintro e w2 ⟨⟨z, rfl, hz⟩, g2⟩; have HZ := Lib.hid hz; clear hz)
  go_ret
  exact ⟨by rw [← HZ.out]; rfl, g2⟩
-- INDEX]
/- The program's dialogue: New. -/
-- [CLONEL
set_option maxRecDepth 100000 in
set_option maxHeartbeats 4000000 in
theorem prg_cloneL (X : Nat → Prop) (v : Value) (cs : List Cmd) (w : World) (h : CmdsAt X w v cs) (hl : cs.length ≤ 20) :
    Calls Tryz.prog 36 #[v] w fun e w' => (∃ L, e = .returned L ∧ OwnCmds w.heap.size w' L cs 0) ∧ Grew w w' := by
  have H := Lib.hid h
  obtain ⟨vs, hvl, hflat, hone⟩ := h.flat
  have HF := Lib.hid hflat
  have HO := Lib.hid (flatK_one cs vs hone)
  have HVL := Lib.hid hvl
  obtain ⟨A, c, rfl, hc, _⟩ := h
  have hq := Lib.run_eql_slice_nil (P := Tryz.prog) w 22 27 A cs.length c 0 0 Tryz.underlying22
  clear hvl hflat hone
  cases A with
  | none =>
    have h0 : cs = [] := by
      obtain ⟨A, c', e, _, hr⟩ := H.out
      cases e
      rcases Nat.eq_zero_or_pos cs.length with z | z
      · exact List.eq_nil_of_length_eq_zero z
      · obtain ⟨b, o, e, _⟩ := hr z; cases e
    subst h0
    simp only [List.length_nil, Option.isNone] at hq ⊢
    go_enter Tryz.func36, Tryz.ntmps36
    go_wp2_with fail
    go_ret
    exact ⟨⟨_, rfl, none, 0, rfl, Nat.le_refl _, fun b e => (by simp [Value.ownBlock] at e), fun e => absurd e (by simp)⟩, Grew.refl _⟩
  | some a =>
    have gE := (Grew.refl w).alloc (.cells #[] 27)
    have hO : (w.alloc (.cells #[] 27)).ownsRow w.heap.size 27 4 (.slice (some ⟨w.heap.size, 0, none⟩) 0 0) 0 [] := ⟨rfl, .inr ⟨_, 0, #[], rfl, Nat.le_refl _, heap_alloc_new w _, Nat.le_refl _, Nat.zero_le _, rfl, rfl⟩⟩
    have HO1 := Lib.hid hO
    have HF1 := Lib.hid (HF.out.far (F := fun _ => False) (Far.of_grew gE) (fun _ _ h => h))
    have GE := Lib.hid gE
    clear gE hO
    go_enter Tryz.func36, Tryz.ntmps36
    go_wp2_with (refine wpList_joinC _ rfl _ _ 22 rfl w.heap.size 27 _ 4 32 rfl infoCmd rfl (by decide) (.slice (some ⟨w.heap.size, 0, none⟩) 0 0) 0 [] rfl HO1.out (.slice (some a) cs.length c) cs.length (flatK cs vs) rfl HF1.out HO.out (by unfold maxLen; omega) (by omega) (by simp) ?_; intro v2 w2 hown2 hgrow2 hnil2)
    go_wp2_with fail
    go_ret
    rw [List.nil_append, Nat.zero_add] at hown2
    have gA : Grew w w2 := Below.grown GE.out hgrow2 GE.out.size (fun b hb => by simp [Value.ownBlock] at hb; omega)
    refine ⟨⟨v2, rfl, ?_⟩, gA⟩
    have hlt := fun b hb => World.ownsRow.lt hown2 b hb
    obtain ⟨_, ⟨e, _⟩ | ⟨g, cap, cur, e, hb, hh, hn, hm, hcur, ht⟩⟩ := id hown2
    · have := (hnil2.1 e).1
      cases this
    · subst e
      refine ⟨_, cap, rfl, hn, fun b e => hlt b e, fun hp => ⟨g, rfl, (hlt g rfl).2, hb, fun i c hi => ?_⟩⟩
      have hic := (List.getElem?_eq_some_iff.1 hi).1
      have hiv : i < vs.length := by rw [HVL.out]; exact hic
      have e2 := List.getElem?_eq_getElem hiv
      obtain ⟨_, A', c', e3, hc3, hr⟩ := CellsAt.of_own hown2
      cases e3
      obtain ⟨b0, o0, e4, hlt4, hcell⟩ := hr hp
      cases e4
      have hg : ∀ j x, j < 4 → (cmdCells c vs[i])[j]? = some x → w2.cell? ⟨g, i * 4 + j, none⟩ = some x := fun j x hj hx => by
        have := hcell (i * 4 + j) x ((flatK_get cs vs i j c _ hi e2 hj).trans hx)
        rwa [Nat.zero_add] at this
      exact ⟨vs[i], hg 0 _ (by omega) rfl, hg 1 _ (by omega) rfl, hg 2 _ (by omega) rfl, hg 3 _ (by omega) rfl, World.ownsRow.frozenAt hown2 (i * 4), fun q => absurd q (Nat.not_lt_zero _)⟩
-- CLONEL]
-- [NEW
set_option maxRecDepth 100000 in
set_option maxHeartbeats 8000000 in
theorem prg_New (X : Nat → Prop) (v : Value) (cs : List Cmd) (tmo tries : Int) (w : World) (h : CmdsAt X w v cs) (hX : ∀ b, X b → b < w.heap.size) (hl : cs.length ≤ 20) (hk : ∀ c ∈ cs, c.wait < 256 ∧ c.cls < 256 ∧ c.id < 256 ∧ Bytes c.b ∧ c.b.length ≤ 1100) (ht : -9223372036854775808 ≤ tmo ∧ tmo ≤ 9223372036854775807) (hr : -9223372036854775808 ≤ tries ∧ tries ≤ 9223372036854775807) :
    Calls Tryz.prog 16 #[v, .int .i64 tmo, .int .i64 tries] w fun e w' => Grew w w' ∧ (mayDlg cs tmo tries → ∃ p F K, e = .returned (.tuple #[.pointer (some p), .int .i64 0]) ∧ PrgR K w' (.pointer (some p)) F (dlgNew cs tmo tries.toNat) ∧ ∀ b, F b ∨ K b → w.heap.size ≤ b) ∧ (¬ mayDlg cs tmo tries → e = .returned (.tuple #[.pointer none, .int .i64 2])) := by
  have H := Lib.hid h
  have HK := Lib.hid hk
  have HCF := Lib.hid (prg_containsFunc X v cs w h hl (fun c hc => ⟨(hk c hc).1, by have := (hk c hc).2.2.2.2; omega⟩))
  have HCL := fun w' (G : Grew w w') => Lib.hid (prg_cloneL X v cs w' (h.grew G) hl)
  obtain ⟨A, c, rfl, hc, _⟩ := h
  have e6 : ∀ {w : World}, True := trivial
  by_cases hlen : cs.length ≤ 16
  · have n16 : ¬ (16 : Int) < cs.length := by omega
    by_cases hall : ∀ c ∈ cs, mayCmd c
    · rw [decide_eq_true hall] at HCF
      by_cases h1 : 100000000 ≤ tmo
      · have m1 : ¬ tmo < 100000000 := by omega
        by_cases h2 : tmo ≤ 10000000000
        · have m2 : ¬ (10000000000 : Int) < tmo := by omega
          by_cases h3 : 1 ≤ tries
          · have m3 : ¬ tries < 1 := by omega
            by_cases h4 : tries ≤ 8
            · have m4 : ¬ (8 : Int) < tries := by omega
              have hmay : mayDlg cs tmo tries := ⟨hall, hlen, h1, h2, h3, h4⟩
              have HALL := Lib.hid hall
              have HMAY := Lib.hid hmay
              clear hk hX hall hmay
              go_enter Tryz.func16, Tryz.ntmps16
              go_upto_region 5 with (go_at_call 34; refine HCF.out.mono ?_; rintro e w1 ⟨rfl, g1⟩; have G1 := Lib.hid g1)
              go_upto_region 6 with (go_at_call 36; refine (HCL _ G1.out).out.mono ?_; rintro e w2 ⟨⟨L, rfl, hL⟩, g2⟩; have G2 := Lib.hid (G1.out.trans g2); have HL := Lib.hid hL)
              have hc2 := HL.out
              obtain ⟨A2, cap, rfl, hcap, _⟩ := hc2
              have HPOS := Lib.hid (fun c hc => (HALL.out c hc).1)
              clear HCF HCL
              go_wp2_with fail
              go_loopw [36] (fun i wr => ∃ k : Nat, k ≤ cs.length ∧ i = .int .i64 (k : Nat) ∧ Hid (OwnCmds w1.heap.size wr (.slice A2 cs.length cap) cs k) ∧ Hid (Grew w wr)) (fun i _ => cs.length - (intOf i).toNat)
              case atStart => exact ⟨0, Nat.zero_le _, rfl, HL, G2⟩
              case round =>
                obtain ⟨k, hkk, rfl, HO, G⟩ := hrel
                by_cases hlt : k < cs.length
                · obtain ⟨b, o, cc, fv, e, _, hd, _⟩ := (H.out.grew G.out).at_ k hlt
                  cases e
                  have q0 := hd.c0
                  have q1 := hd.c1
                  have q2 := hd.c2
                  have q3 := hd.c3
                  have hbw := hd.lt
                  have hpos := HPOS.out _ (List.getElem_mem hlt)
                  have hlen2 := (HK.out _ (List.getElem_mem hlt)).2.2.2.2
                  have HRW := Lib.hid hd.row
                  obtain ⟨A3, c3, rfl, hc3, _⟩ := hd.row
                  obtain ⟨A', cap', e, _, _, hrr⟩ := HO.out
                  cases e
                  obtain ⟨g1, rfl, lg1, lB, hff⟩ := hrr (by omega)
                  have hki : (k : Int) < cs.length := by omega
                  have HQ := Lib.hid (show ∃ q, q = cs[k] from ⟨_, rfl⟩)
                  clear hd hff hrr
                  go_upto_region 9 with fail
                  obtain ⟨V, hV⟩ : ∃ V, wr.alloc (.cells #[.slice A3 cs[k].b.length c3, .int .u8 (cs[k].wait : Nat), .int .u8 (cs[k].cls : Nat), .int .u8 (cs[k].id : Nat)] 27) = V := ⟨_, rfl⟩
                  have v0 : V.cell? ⟨wr.heap.size, 0, none⟩ = some (.slice A3 cs[k].b.length c3) := by rw [← hV]; simp [go_sem]
                  have lv : wr.heap.size < V.heap.size := by rw [← hV]; simp
                  have gV : Grew wr V := by rw [← hV]; exact (Grew.refl wr).alloc _
                  rw [hV]
                  clear hV
                  have GV := Lib.hid gV
                  have HCB := Lib.hid (prg_clone V (.slice A3 cs[k].b.length c3) cs[k].b (HRW.out.grew gV) hpos (by omega))
                  clear q0 q1 q2 q3 gV
                  go_wp2_with (go_at_call 37; refine HCB.out.mono ?_; rintro e w5 ⟨f5, rfl, ho5, g5⟩; have HO5 := Lib.hid ho5; obtain ⟨fg, fc, rfl, hfg, hlt5⟩ := ho5.form hpos; have G5 := Lib.hid (GV.out.trans g5); have HOC := Lib.hid (HO.out.grew G5.out); obtain ⟨A', cap', e, _, _, hrr⟩ := HOC.out; cases e; obtain ⟨g', e, lg5, _, hff⟩ := hrr (by omega); cases e; obtain ⟨v5, z0, _, _, _, z4, _⟩ := hff k _ (List.getElem?_eq_getElem hlt); clear hff hrr ho5)
                  go_round
                  case rel =>
                    refine ⟨k + 1, by omega, by go_num, Lib.hid (HOC.out.put hlt HO5.out.row (fun b e => ?_)), Lib.hid ((G.out.trans G5.out).setCell (p := ⟨g1, k * 4, none⟩) (by show w.heap.size ≤ g1; have := G1.out.size; omega) _)⟩
                    have := HO5.out.lt b e
                    omega
                  case measure => simp [intOf]; omega
                · obtain rfl : k = cs.length := by omega
                  obtain ⟨hcm, hown⟩ := HO.out.cmds (U := wr.heap.size) (fun c hc => ⟨(HK.out c hc).1, (HK.out c hc).2.1, (HK.out c hc).2.2.1⟩) (Nat.le_refl _)
                  have HCM := Lib.hid hcm
                  have HOW := Lib.hid hown
                  have htr : ((tries.toNat : Nat) : Int) = tries := by omega
                  clear hcm hown HL HO
                  go_wp2_with fail
                  obtain ⟨V, hV, gV, TV⟩ := seven_new wr (.int .i64 tmo) (.int .i64 tries) (.slice A2 cs.length cap) (.pointer none) (.int .i64 0) (.int .i64 0) (.int .i64 (-9223372036854775808)) 67
                  rw [hV]
                  clear hV
                  refine bodyPost_ret (by simp [results, Tryz.results16, go_sem]; try rfl) rfl ?_
                  have hw1 := G1.out.size
                  have hw2 := G.out.size
                  have hmap : (cs.map dlgRow).map DRow.c = cs := by
                    rw [List.map_map]
                    exact List.map_id cs
                  refine ⟨G.out.trans gV, fun _ => ⟨⟨wr.heap.size, 0, none⟩, ownSet wr.heap.size none, fun b => w1.heap.size ≤ b ∧ b < wr.heap.size, rfl, ⟨wr.heap.size, .slice A2 cs.length cap, none, [], cs.map dlgRow, rfl, fun b => Iff.rfl, ⟨rfl, fun r e => (by simp at e), fun r e => (by cases e), fresh_rows cs⟩, ?_⟩, fun b q => ?_⟩, fun y => absurd HMAY.out y⟩
                  · show PrgAt _ V _ _ none ((cs.map dlgRow).map DRow.c) 0 0 (-9223372036854775808) tmo tries.toNat
                    rw [hmap]
                    exact ⟨TV.lt, TV.c0, by rw [htr]; exact TV.c1, TV.c2, TV.c3, TV.c4, TV.c5, TV.c6, TV.f2, TV.f3, TV.f4, TV.f5, TV.f6, HCM.out.grew gV, HOW.out, by omega, HALL.out, fun x r e => (by cases e), fun e => Nat.lt_irrefl _ e.2, fun b hb => Nat.lt_of_lt_of_le hb.2 gV.size, ⟨by decide, by decide⟩, ⟨by decide, by decide⟩, ⟨h1, h2⟩, ⟨by omega, by omega⟩⟩
                  · rcases q with q | q
                    · have := ownSet_none b q; omega
                    · have := q.1; omega
            · have m4 : (8 : Int) < tries := by omega
              have HNO : Hid (¬ mayDlg cs tmo tries) := Lib.hid (fun y => h4 y.2.2.2.2.2)
              clear hk hX
              go_enter Tryz.func16, Tryz.ntmps16
              go_wp2_with (go_at_call 34; refine HCF.out.mono ?_; rintro e w1 ⟨rfl, g1⟩; have G1 := Lib.hid g1)
              refine bodyPost_ret (by simp [results, Tryz.results16, go_sem]; try rfl) rfl ?_
              exact ⟨G1.out, fun y => absurd y HNO.out, fun _ => rfl⟩
          · have m3 : tries < 1 := by omega
            have HNO : Hid (¬ mayDlg cs tmo tries) := Lib.hid (fun y => h3 y.2.2.2.2.1)
            clear hk hX
            go_enter Tryz.func16, Tryz.ntmps16
            go_wp2_with (go_at_call 34; refine HCF.out.mono ?_; rintro e w1 ⟨rfl, g1⟩; have G1 := Lib.hid g1)
            refine bodyPost_ret (by simp [results, Tryz.results16, go_sem]; try rfl) rfl ?_
            exact ⟨G1.out, fun y => absurd y HNO.out, fun _ => rfl⟩
        · have m2 : (10000000000 : Int) < tmo := by omega
          have HNO : Hid (¬ mayDlg cs tmo tries) := Lib.hid (fun y => h2 y.2.2.2.1)
          clear hk hX
          go_enter Tryz.func16, Tryz.ntmps16
          go_wp2_with (go_at_call 34; refine HCF.out.mono ?_; rintro e w1 ⟨rfl, g1⟩; have G1 := Lib.hid g1)
          refine bodyPost_ret (by simp [results, Tryz.results16, go_sem]; try rfl) rfl ?_
          exact ⟨G1.out, fun y => absurd y HNO.out, fun _ => rfl⟩
      · have m1 : tmo < 100000000 := by omega
        have HNO : Hid (¬ mayDlg cs tmo tries) := Lib.hid (fun y => h1 y.2.2.1)
        clear hk hX
        go_enter Tryz.func16, Tryz.ntmps16
        go_wp2_with (go_at_call 34; refine HCF.out.mono ?_; rintro e w1 ⟨rfl, g1⟩; have G1 := Lib.hid g1)
        refine bodyPost_ret (by simp [results, Tryz.results16, go_sem]; try rfl) rfl ?_
        exact ⟨G1.out, fun y => absurd y HNO.out, fun _ => rfl⟩
    · rw [decide_eq_false hall] at HCF
      have HNO : Hid (¬ mayDlg cs tmo tries) := Lib.hid (fun y => hall y.1)
      clear hk hX
      go_enter Tryz.func16, Tryz.ntmps16
      go_wp2_with (go_at_call 34; refine HCF.out.mono ?_; rintro e w1 ⟨rfl, g1⟩; have G1 := Lib.hid g1)
      refine bodyPost_ret (by simp [results, Tryz.results16, go_sem]; try rfl) rfl ?_
      exact ⟨G1.out, fun y => absurd y HNO.out, fun _ => rfl⟩
  · have n16 : (16 : Int) < cs.length := by omega
    have HNO : Hid (¬ mayDlg cs tmo tries) := Lib.hid (fun y => hlen y.2.1)
    clear hk hX
    go_enter Tryz.func16, Tryz.ntmps16
    go_wp2_with fail
    refine bodyPost_ret (by simp [results, Tryz.results16, go_sem]; try rfl) rfl ?_
    exact ⟨Grew.refl _, fun y => absurd y HNO.out, fun _ => rfl⟩
-- NEW]
end Go.Proofs.YtcdmbnbanopioaaGreatDoor

namespace Go.Proofs.YtcdmbnbanopioaaGreatDoor
open Go.RowKit
set_option linter.unusedVariables false

theorem dlg_calls : DlgCalls PrgR where
  far := PrgR.far
  lt := PrgR.lt
  apart := PrgR.apart
  ptr := PrgR.ptr
  new := prg_New
  tick := prg_Tick
  frame := prg_Frame
  counts := fun K w v F d hR hok => by
    obtain ⟨g, L, fl, E, W, rfl, hF, hp, H⟩ := hR
    obtain ⟨c1, c2, c3, _⟩ := hp.counts
    have h := prg_Counts H
    rw [List.length_map] at h
    rw [c1, c2, c3]
    cases fl <;> exact h
  flying := fun K w v F d hR hok => by
    obtain ⟨g, L, fl, E, W, rfl, hF, hp, H⟩ := hR
    obtain ⟨_, _, _, c4⟩ := hp.counts
    have h := (prg_Flying H).mono (R' := fun e w' => e = .returned (.bool fl.isSome) ∧ Grew w w') (fun e w' ⟨h1, h2⟩ => ⟨h1, by subst h2; exact Grew.refl _⟩)
    rw [c4]
    cases fl <;> exact h
  none_tick := fun w t ht => prg_Tick_none w t ht
  none_frame := fun w => prg_Frame_none w
  none_counts := fun w => prg_Counts_none w
  none_flying := fun w => (prg_Flying_none w).mono (fun e w' ⟨h1, h2⟩ => ⟨h1, by subst h2; exact Grew.refl _⟩)
end Go.Proofs.YtcdmbnbanopioaaGreatDoor

namespace Go.Proofs.YtcdmbnbanopioaaGreatDoor
open Go.RowKit
set_option linter.unusedVariables false

/-- A text's bytes as numbers. -/
def nat (s : ByteArray) : List Nat := s.data.toList.map UInt8.toNat
theorem nat_length (s : ByteArray) : (nat s).length = s.size := by unfold nat; rw [List.length_map, Array.length_toList]; rfl
theorem nat_lt (s : ByteArray) (i : Nat) : wd (nat s) i < 256 := by
  unfold wd nat
  rw [List.getD_eq_getElem?_getD, List.getElem?_map]
  cases s.data.toList[i]? with
  | none => simp
  | some x => simpa using x.toNat_lt
theorem nat_wd (s : ByteArray) (i : Nat) (h : i < s.size) : (s[i]'h).toNat = wd (nat s) i := by
  have h2 : i < s.data.size := h
  unfold wd nat
  rw [List.getD_eq_getElem?_getD, List.getElem?_map, Array.getElem?_toList, Array.getElem?_eq_getElem h2]
  rfl
theorem nat_ext {s t : ByteArray} (h : nat s = nat t) : s = t := by
  unfold nat at h
  have h2 : s.data.toList = t.data.toList := (List.map_inj_right (fun a b hab => UInt8.toNat_inj.1 hab)).1 h
  obtain ⟨a⟩ := s
  obtain ⟨b⟩ := t
  have : a = b := Array.toList_inj.1 h2
  rw [this]
theorem nat_extract (s : ByteArray) (a b : Nat) : nat (s.extract a b) = ((nat s).take b).drop a := by
  unfold nat
  rw [ByteArray.data_extract, Array.toList_extract, List.extract_eq_take_drop, List.map_take, List.map_drop, List.drop_take]
theorem nat_append (s t : ByteArray) : nat (s ++ t) = nat s ++ nat t := by
  unfold nat
  rw [ByteArray.data_append, Array.toList_append, List.map_append]
theorem nat_mk (l : List UInt8) : nat ⟨l.toArray⟩ = l.map UInt8.toNat := rfl
theorem nat_nil : nat ⟨#[]⟩ = [] := rfl
theorem size_extract (s : ByteArray) (a b : Nat) : (s.extract a b).size = min b s.size - a := by
  rw [← nat_length, nat_extract, List.length_drop, List.length_take, nat_length]
theorem extract_all (s : ByteArray) : s.extract 0 s.size = s := nat_ext (by rw [nat_extract, List.drop_zero, List.take_of_length_le (by rw [nat_length]; exact Nat.le_refl _)])
theorem extract_none (s : ByteArray) (a : Nat) (h : s.size ≤ a) : s.extract a s.size = ⟨#[]⟩ := nat_ext (by rw [nat_extract, nat_nil, List.drop_eq_nil_of_le (by rw [List.length_take, nat_length]; omega)])
end Go.Proofs.YtcdmbnbanopioaaGreatDoor

namespace Go.Proofs.YtcdmbnbanopioaaGreatDoor
open Go.RowKit
set_option linter.unusedVariables false

/- The document's ring: a list behind a pointer. -/
/-- The document's ring in block g: its size, its bytes, how many were lost. -/
structure RefAt (w : World) (g size : Nat) (L : Value) (ns : List Nat) (lost : Nat) : Prop where
  lt : g < w.heap.size
  c0 : w.cell? ⟨g, 0, none⟩ = some (.int .i64 size)
  c1 : w.cell? ⟨g, 1, none⟩ = some L
  c2 : w.cell? ⟨g, 2, none⟩ = some (.int .i64 lost)
  f1 : w.frozen? ⟨g, 1, none⟩ = false
  f2 : w.frozen? ⟨g, 2, none⟩ = false
  row : Row .u8 w L ns
  own : ∀ b, L.ownBlock = some b → b < w.heap.size ∧ b ≠ g
theorem RefAt.far {F : Nat → Prop} {w w' : World} {g size : Nat} {L : Value} {ns : List Nat} {lost : Nat} (h : RefAt w g size L ns lost) (k : Far F w w') (hg : ¬ F g) (hL : ∀ b, L.ownBlock = some b → ¬ F b) : RefAt w' g size L ns lost :=
  ⟨Nat.lt_of_lt_of_le h.lt k.size, (k.cell (p := ⟨g, 0, none⟩) h.lt hg).trans h.c0, (k.cell (p := ⟨g, 1, none⟩) h.lt hg).trans h.c1, (k.cell (p := ⟨g, 2, none⟩) h.lt hg).trans h.c2,
   (k.frozen (p := ⟨g, 1, none⟩) h.lt hg).trans h.f1, (k.frozen (p := ⟨g, 2, none⟩) h.lt hg).trans h.f2, h.row.far k hL, fun b hb => ⟨Nat.lt_of_lt_of_le (h.own b hb).1 k.size, (h.own b hb).2⟩⟩
theorem RefAt.grew {w w' : World} {g size : Nat} {L : Value} {ns : List Nat} {lost : Nat} (h : RefAt w g size L ns lost) (k : Grew w w') : RefAt w' g size L ns lost := h.far (F := fun _ => False) (Far.of_grew k) (fun h => h) (fun _ _ h => h)

theorem refAt_put {w2 : World} {g size : Nat} {L L' : Value} {lost' : Nat} {ms : List Nat} {x y : Int} (lt : g < w2.heap.size) (e0 : w2.cell? ⟨g, 0, none⟩ = some (.int .i64 size)) (e1 : w2.cell? ⟨g, 1, none⟩ = some L) (e2 : w2.cell? ⟨g, 2, none⟩ = some (.int .i64 y))
    (q1 : w2.frozen? ⟨g, 1, none⟩ = false) (q2 : w2.frozen? ⟨g, 2, none⟩ = false) (hrow : Row .u8 w2 L' ms) (hown : ∀ b, L'.ownBlock = some b → b < w2.heap.size ∧ b ≠ g) (hx : x = ((lost' : Nat) : Int)) :
    RefAt ((w2.setCell ⟨g, 1, none⟩ L').setCell ⟨g, 2, none⟩ (.int .i64 x)) g size L' ms lost' := by
  subst hx
  have ne : ∀ {i j : Nat}, i ≠ j → (⟨g, i, none⟩ : Addr) ≠ ⟨g, j, none⟩ := fun hj e => hj (by injection e)
  have F1 := Far.one w2 ⟨g, 1, none⟩ L'
  have F2 := Far.one (w2.setCell ⟨g, 1, none⟩ L') ⟨g, 2, none⟩ (.int .i64 (lost' : Nat))
  have s2 := (World.cell?_setCell_other w2 ⟨g, 1, none⟩ ⟨g, 2, none⟩ L' (ne (by omega))).trans e2
  refine ⟨by simpa [World.setCell] using lt, ?_, ?_, World.cell?_setCell_same _ _ _ s2, by simpa [go_sem] using q1, by simpa [go_sem] using q2, (hrow.far F1 (fun b hb => (hown b hb).2)).far F2 (fun b hb => (hown b hb).2), fun b hb => ⟨by simpa [World.setCell] using (hown b hb).1, (hown b hb).2⟩⟩
  · rw [World.cell?_setCell_other _ _ _ _ (ne (by omega)), World.cell?_setCell_other _ _ _ _ (ne (by omega))]; exact e0
  · rw [World.cell?_setCell_other _ _ _ _ (ne (by omega))]; exact World.cell?_setCell_same _ _ _ e1
theorem far_put {w w2 : World} {g : Nat} {u v : Value} (D : Grew w w2) : Far (fun k => k = g) w ((w2.setCell ⟨g, 1, none⟩ u).setCell ⟨g, 2, none⟩ v) :=
  Far.setCell (F := fun k => k = g) (Far.setCell (F := fun k => k = g) (Far.of_grew D) (p := ⟨g, 1, none⟩) rfl u) (p := ⟨g, 2, none⟩) rfl v

def RefPut (g size : Nat) (ns xs : List Nat) (lost : Nat) (w : World) (e : Ending) (w' : World) : Prop :=
  ∃ L, e = .returned (.int .i64 ((ns.length + xs.length - size : Nat) : Int)) ∧ RefAt w' g size L ((ns ++ xs).drop (ns.length + xs.length - size)) (lost + (ns.length + xs.length - size)) ∧ (∀ b, L.ownBlock = some b → w.heap.size ≤ b) ∧ Far (fun k => k = g) w w'

/- The document's ring: its first bytes, some gone, another one. -/
/-- Bytes in memory of their own, that may be written over. -/
def Peeked (ms : List Nat) (w : World) (e : Ending) (w' : World) : Prop := ∃ v, e = .returned v ∧ Own w.heap.size 5 .u8 w' v ms ∧ Grew w w'


theorem ownBlock_map (A : Option Addr) (m n c n' c' : Nat) : (Value.slice (A.map fun x => x.add m) n c).ownBlock = (Value.slice A n' c').ownBlock := by
  cases A with
  | none => rfl
  | some a => simp only [Option.map, Value.ownBlock]; unfold Addr.add; split <;> rfl
theorem ownBlock_same (A : Option Addr) (n c n' c' : Nat) : (Value.slice A n c).ownBlock = (Value.slice A n' c').ownBlock := by cases A <;> rfl
theorem refAt_one {w2 : World} {g size lost : Nat} {L L' : Value} {ns ms : List Nat} (h : RefAt w2 g size L ns lost) (hrow : Row .u8 w2 L' ms) (hown : L'.ownBlock = L.ownBlock) : RefAt (w2.setCell ⟨g, 1, none⟩ L') g size L' ms lost := by
  have ne : ∀ {i j : Nat}, i ≠ j → (⟨g, i, none⟩ : Addr) ≠ ⟨g, j, none⟩ := fun hj e => hj (by injection e)
  have F1 := Far.one w2 ⟨g, 1, none⟩ L'
  refine ⟨by simpa [World.setCell] using h.lt, ?_, World.cell?_setCell_same _ _ _ h.c1, ?_, by simpa [go_sem] using h.f1, by simpa [go_sem] using h.f2, hrow.far F1 (fun b hb => (h.own b (hown ▸ hb)).2), fun b hb => ⟨by simpa [World.setCell] using (h.own b (hown ▸ hb)).1, (h.own b (hown ▸ hb)).2⟩⟩
  · rw [World.cell?_setCell_other _ _ _ _ (ne (by omega))]; exact h.c0
  · rw [World.cell?_setCell_other _ _ _ _ (ne (by omega))]; exact h.c2

def RefDrop (g size : Nat) (L0 : Value) (ns : List Nat) (lost n : Nat) (w : World) (e : Ending) (w' : World) : Prop :=
  ∃ L, e = .returned (.int .i64 ((min n ns.length : Nat) : Int)) ∧ RefAt w' g size L (ns.drop (min n ns.length)) lost ∧ L.ownBlock = L0.ownBlock ∧ Far (fun k => k = g) w w'


def RefCopy (size : Nat) (ns : List Nat) (lost : Nat) (w : World) (e : Ending) (w' : World) : Prop :=
  ∃ g L, e = .returned (.pointer (some ⟨g, 0, none⟩)) ∧ RefAt w' g size L ns lost ∧ w.heap.size ≤ g ∧ (∀ b, L.ownBlock = some b → w.heap.size ≤ b) ∧ Grew w w'

/- What the program's ring tells; the page's example out of it. -/
/-- How many have no room; what is held behind a put. -/
def ringOver (size : Nat) (ns xs : List Nat) : Nat := ns.length + xs.length - size
def ringPut (size : Nat) (ns xs : List Nat) : List Nat := (ns ++ xs).drop (ringOver size ns xs)
theorem ringPut_length (size : Nat) (ns xs : List Nat) (h : ns.length ≤ size) : (ringPut size ns xs).length = min (ns.length + xs.length) size := by
  unfold ringPut ringOver; rw [List.length_drop, List.length_append]; omega

section
variable (R : World → Value → (Nat → Prop) → Nat → List Nat → Nat → Prop)
def RingNew (size : Nat) (w : World) (e : Ending) (w' : World) : Prop := ∃ g F, e = .returned (.tuple #[.pointer (some ⟨g, 0, none⟩), .int .i64 0]) ∧ R w' (.pointer (some ⟨g, 0, none⟩)) F size [] 0 ∧ (∀ b, F b → w.heap.size ≤ b) ∧ Grew w w'
def RingTurn (r : Int) (v : Value) (F : Nat → Prop) (size : Nat) (ms : List Nat) (lost : Nat) (w : World) (e : Ending) (w' : World) : Prop :=
  ∃ F', e = .returned (.int .i64 r) ∧ R w' v F' size ms lost ∧ (∀ b, F' b → F b ∨ w.heap.size ≤ b) ∧ Far F w w'
def RingCopied (size : Nat) (ns : List Nat) (lost : Nat) (w : World) (e : Ending) (w' : World) : Prop := ∃ g F, e = .returned (.pointer (some ⟨g, 0, none⟩)) ∧ R w' (.pointer (some ⟨g, 0, none⟩)) F size ns lost ∧ (∀ b, F b → w.heap.size ≤ b) ∧ Grew w w'

/-- R: a ring behind a pointer, in the blocks F; T: what the calls lean on in the world. -/
structure RingCalls (T : World → Prop) : Prop where
  keep : ∀ w w', T w → Grew w w' → T w'
  inv : ∀ w v F size ns lost, R w v F size ns lost → (64 ≤ size ∧ size ≤ 4096) ∧ ns.length ≤ size ∧ Bytes ns
  lt : ∀ w v F size ns lost b, R w v F size ns lost → F b → b < w.heap.size
  far : ∀ w w' v F G size ns lost, R w v F size ns lost → Far G w w' → (∀ b, F b → ¬ G b) → R w' v F size ns lost
end

theorem RingCalls.grew {R : World → Value → (Nat → Prop) → Nat → List Nat → Nat → Prop} {T : World → Prop} (P : RingCalls R T) {w w' : World} {v : Value} {F : Nat → Prop} {size lost : Nat} {ns : List Nat} (h : R w v F size ns lost) (g : Grew w w') : R w' v F size ns lost :=
  P.far w w' v F (fun _ => False) size ns lost h (Far.of_grew g) (fun _ _ h => h)
theorem grew_made {w w' : World} (h : w.grownBy w' none) : Grew w w' := Below.grown (Below.refl _ _) h (Nat.le_refl _) (fun b hb => by cases hb)
theorem known_nums : ringOver 64 [] (List.replicate 60 0) = 0 ∧ ringPut 64 [] (List.replicate 60 0) = List.replicate 60 0 ∧ ringOver 64 (List.replicate 60 0) (List.replicate 10 0) = 6 ∧ ringPut 64 (List.replicate 60 0) (List.replicate 10 0) = List.replicate 64 0 := by decide +kernel
theorem replicate_bytes (n : Nat) : Bytes (List.replicate n 0) := Bytes.of_mem (fun x hx => by rw [List.eq_of_mem_replicate hx]; omega)
theorem row_zeros {w : World} {B g n : Nat} {E : TypeId} (h : w.ownsRow B E 1 (.slice (some ⟨g, 0, none⟩) n n) n (madeCells (Value.int .u8 0).cells (n * 1)).toList) : Row .u8 w (.slice (some ⟨g, 0, none⟩) n n) (List.replicate n 0) := by
  refine ⟨_, n, by simp, by simp, fun hp => ⟨g, 0, rfl, (World.ownsRow.lt h g rfl).2, fun i hi => ?_⟩⟩
  simp only [List.length_replicate] at hi
  have := World.ownsRow.cellAt h i (by omega)
  rw [Nat.zero_add, this]
  simp [madeCells, wd, hi, Value.cells, Nat.mod_one]

end Go.Proofs.YtcdmbnbanopioaaGreatDoor

namespace Go.Proofs.YtcdmbnbanopioaaGreatDoor
open Go.RowKit

theorem wrap_u8 (n : Int) : IntKind.u8.wrap n = n % 256 := by simp [IntKind.wrap, IntKind.bits, IntKind.signed]
theorem bits_xor_u8_n (a b : Nat) (ha : a < 256) (hb : b < 256) : bits .xor .u8 (a : Int) (b : Int) = ((a ^^^ b : Nat) : Int) := by
  have ha' : a < 2 ^ 8 := ha
  have hb' : b < 2 ^ 8 := hb
  have hx : a ^^^ b < 2 ^ 8 := Nat.xor_lt_two_pow ha' hb'
  have h1 : (BitVec.ofInt 8 (a : Int)).toNat = a := by rw [BitVec.ofInt_natCast, BitVec.toNat_ofNat]; exact Nat.mod_eq_of_lt ha'
  have h2 : (BitVec.ofInt 8 (b : Int)).toNat = b := by rw [BitVec.ofInt_natCast, BitVec.toNat_ofNat]; exact Nat.mod_eq_of_lt hb'
  show IntKind.u8.wrap ((BitVec.ofInt 8 (a : Int) ^^^ BitVec.ofInt 8 (b : Int)).toNat : Int) = _
  rw [BitVec.toNat_xor, h1, h2, wrap_u8]
  omega
theorem bits_and_u8_n (a b : Nat) (ha : a < 256) (hb : b < 256) : bits .and .u8 (a : Int) (b : Int) = ((a &&& b : Nat) : Int) := by
  have ha' : a < 2 ^ 8 := ha
  have hb' : b < 2 ^ 8 := hb
  have hx : a &&& b < 2 ^ 8 := Nat.lt_of_le_of_lt Nat.and_le_left ha'
  have h1 : (BitVec.ofInt 8 (a : Int)).toNat = a := by rw [BitVec.ofInt_natCast, BitVec.toNat_ofNat]; exact Nat.mod_eq_of_lt ha'
  have h2 : (BitVec.ofInt 8 (b : Int)).toNat = b := by rw [BitVec.ofInt_natCast, BitVec.toNat_ofNat]; exact Nat.mod_eq_of_lt hb'
  show IntKind.u8.wrap ((BitVec.ofInt 8 (a : Int) &&& BitVec.ofInt 8 (b : Int)).toNat : Int) = _
  rw [BitVec.toNat_and, h1, h2, wrap_u8]
  omega
theorem bits_or_u8_n (a b : Nat) (ha : a < 256) (hb : b < 256) : bits .or .u8 (a : Int) (b : Int) = ((a ||| b : Nat) : Int) := by
  have ha' : a < 2 ^ 8 := ha
  have hb' : b < 2 ^ 8 := hb
  have hx : a ||| b < 2 ^ 8 := Nat.or_lt_two_pow ha' hb'
  have h1 : (BitVec.ofInt 8 (a : Int)).toNat = a := by rw [BitVec.ofInt_natCast, BitVec.toNat_ofNat]; exact Nat.mod_eq_of_lt ha'
  have h2 : (BitVec.ofInt 8 (b : Int)).toNat = b := by rw [BitVec.ofInt_natCast, BitVec.toNat_ofNat]; exact Nat.mod_eq_of_lt hb'
  show IntKind.u8.wrap ((BitVec.ofInt 8 (a : Int) ||| BitVec.ofInt 8 (b : Int)).toNat : Int) = _
  rw [BitVec.toNat_or, h1, h2, wrap_u8]
  omega
theorem wrap_u16 (n : Int) : IntKind.u16.wrap n = n % 65536 := by simp [IntKind.wrap, IntKind.bits, IntKind.signed]
theorem bits_xor_u16_n (a b : Nat) (ha : a < 65536) (hb : b < 65536) : bits .xor .u16 (a : Int) (b : Int) = ((a ^^^ b : Nat) : Int) := by
  have ha' : a < 2 ^ 16 := ha
  have hb' : b < 2 ^ 16 := hb
  have hx : a ^^^ b < 2 ^ 16 := Nat.xor_lt_two_pow ha' hb'
  have h1 : (BitVec.ofInt 16 (a : Int)).toNat = a := by rw [BitVec.ofInt_natCast, BitVec.toNat_ofNat]; exact Nat.mod_eq_of_lt ha'
  have h2 : (BitVec.ofInt 16 (b : Int)).toNat = b := by rw [BitVec.ofInt_natCast, BitVec.toNat_ofNat]; exact Nat.mod_eq_of_lt hb'
  show IntKind.u16.wrap ((BitVec.ofInt 16 (a : Int) ^^^ BitVec.ofInt 16 (b : Int)).toNat : Int) = _
  rw [BitVec.toNat_xor, h1, h2, wrap_u16]
  omega
theorem bits_and_u16_n (a b : Nat) (ha : a < 65536) (hb : b < 65536) : bits .and .u16 (a : Int) (b : Int) = ((a &&& b : Nat) : Int) := by
  have ha' : a < 2 ^ 16 := ha
  have hb' : b < 2 ^ 16 := hb
  have hx : a &&& b < 2 ^ 16 := Nat.lt_of_le_of_lt Nat.and_le_left ha'
  have h1 : (BitVec.ofInt 16 (a : Int)).toNat = a := by rw [BitVec.ofInt_natCast, BitVec.toNat_ofNat]; exact Nat.mod_eq_of_lt ha'
  have h2 : (BitVec.ofInt 16 (b : Int)).toNat = b := by rw [BitVec.ofInt_natCast, BitVec.toNat_ofNat]; exact Nat.mod_eq_of_lt hb'
  show IntKind.u16.wrap ((BitVec.ofInt 16 (a : Int) &&& BitVec.ofInt 16 (b : Int)).toNat : Int) = _
  rw [BitVec.toNat_and, h1, h2, wrap_u16]
  omega
theorem bits_or_u16_n (a b : Nat) (ha : a < 65536) (hb : b < 65536) : bits .or .u16 (a : Int) (b : Int) = ((a ||| b : Nat) : Int) := by
  have ha' : a < 2 ^ 16 := ha
  have hb' : b < 2 ^ 16 := hb
  have hx : a ||| b < 2 ^ 16 := Nat.or_lt_two_pow ha' hb'
  have h1 : (BitVec.ofInt 16 (a : Int)).toNat = a := by rw [BitVec.ofInt_natCast, BitVec.toNat_ofNat]; exact Nat.mod_eq_of_lt ha'
  have h2 : (BitVec.ofInt 16 (b : Int)).toNat = b := by rw [BitVec.ofInt_natCast, BitVec.toNat_ofNat]; exact Nat.mod_eq_of_lt hb'
  show IntKind.u16.wrap ((BitVec.ofInt 16 (a : Int) ||| BitVec.ofInt 16 (b : Int)).toNat : Int) = _
  rw [BitVec.toNat_or, h1, h2, wrap_u16]
  omega
theorem wrap_u32 (n : Int) : IntKind.u32.wrap n = n % 4294967296 := by simp [IntKind.wrap, IntKind.bits, IntKind.signed]
theorem bits_xor_u32_n (a b : Nat) (ha : a < 4294967296) (hb : b < 4294967296) : bits .xor .u32 (a : Int) (b : Int) = ((a ^^^ b : Nat) : Int) := by
  have ha' : a < 2 ^ 32 := ha
  have hb' : b < 2 ^ 32 := hb
  have hx : a ^^^ b < 2 ^ 32 := Nat.xor_lt_two_pow ha' hb'
  have h1 : (BitVec.ofInt 32 (a : Int)).toNat = a := by rw [BitVec.ofInt_natCast, BitVec.toNat_ofNat]; exact Nat.mod_eq_of_lt ha'
  have h2 : (BitVec.ofInt 32 (b : Int)).toNat = b := by rw [BitVec.ofInt_natCast, BitVec.toNat_ofNat]; exact Nat.mod_eq_of_lt hb'
  show IntKind.u32.wrap ((BitVec.ofInt 32 (a : Int) ^^^ BitVec.ofInt 32 (b : Int)).toNat : Int) = _
  rw [BitVec.toNat_xor, h1, h2, wrap_u32]
  omega
theorem bits_and_u32_n (a b : Nat) (ha : a < 4294967296) (hb : b < 4294967296) : bits .and .u32 (a : Int) (b : Int) = ((a &&& b : Nat) : Int) := by
  have ha' : a < 2 ^ 32 := ha
  have hb' : b < 2 ^ 32 := hb
  have hx : a &&& b < 2 ^ 32 := Nat.lt_of_le_of_lt Nat.and_le_left ha'
  have h1 : (BitVec.ofInt 32 (a : Int)).toNat = a := by rw [BitVec.ofInt_natCast, BitVec.toNat_ofNat]; exact Nat.mod_eq_of_lt ha'
  have h2 : (BitVec.ofInt 32 (b : Int)).toNat = b := by rw [BitVec.ofInt_natCast, BitVec.toNat_ofNat]; exact Nat.mod_eq_of_lt hb'
  show IntKind.u32.wrap ((BitVec.ofInt 32 (a : Int) &&& BitVec.ofInt 32 (b : Int)).toNat : Int) = _
  rw [BitVec.toNat_and, h1, h2, wrap_u32]
  omega
theorem bits_or_u32_n (a b : Nat) (ha : a < 4294967296) (hb : b < 4294967296) : bits .or .u32 (a : Int) (b : Int) = ((a ||| b : Nat) : Int) := by
  have ha' : a < 2 ^ 32 := ha
  have hb' : b < 2 ^ 32 := hb
  have hx : a ||| b < 2 ^ 32 := Nat.or_lt_two_pow ha' hb'
  have h1 : (BitVec.ofInt 32 (a : Int)).toNat = a := by rw [BitVec.ofInt_natCast, BitVec.toNat_ofNat]; exact Nat.mod_eq_of_lt ha'
  have h2 : (BitVec.ofInt 32 (b : Int)).toNat = b := by rw [BitVec.ofInt_natCast, BitVec.toNat_ofNat]; exact Nat.mod_eq_of_lt hb'
  show IntKind.u32.wrap ((BitVec.ofInt 32 (a : Int) ||| BitVec.ofInt 32 (b : Int)).toNat : Int) = _
  rw [BitVec.toNat_or, h1, h2, wrap_u32]
  omega
end Go.Proofs.YtcdmbnbanopioaaGreatDoor

namespace Go.Proofs.YtcdmbnbanopioaaGreatDoor
open Go.RowKit
set_option linter.unusedVariables false

/- Contracts of the document's checksums. -/
theorem ref07_Fifteen (v : Value) (ns : List Nat) (w : World) (h : Row .u8 w v ns) (hB : Bytes ns) (hl : ns.length ≤ 100000) :
    Calls Tryz.prog 33 #[v] w fun e w' => e = .returned (.int .u16 (fifOf ns : Nat)) ∧ w = w' := by
  obtain ⟨A, c, rfl, hc, hr⟩ := h
  have HR := Lib.hid hr
  clear hr
  go_enter Tryz.func33, Tryz.ntmps33
  go_wp2_with fail
  go_loop [3, 4] (fun n i => ∃ k : Nat, k ≤ ns.length ∧ i = .int .i64 (k : Nat) ∧ n = .int .i64 (addTo ns k : Nat)) (fun _ i => ns.length - (intOf i).toNat)
  case atStart => exact ⟨0, Nat.zero_le _, rfl, rfl⟩
  case round =>
    obtain ⟨k, hk, rfl, rfl⟩ := hrel
    have hs := addTo_le hB k
    by_cases hlt : k < ns.length
    · obtain ⟨b, o, rfl, hb, hcell⟩ := HR.out (by omega)
      have hx := hcell k hlt
      have hw := hB k
      have HS : Hid (addTo ns (k + 1) = addTo ns k + wd ns k) := Lib.hid rfl
      clear hcell
      go_wp2_with fail
      go_round
      case rel => exact ⟨k + 1, by omega, by go_num, by rw [HS.out]; go_num⟩
      case measure => simp [intOf]; omega
    · obtain rfl : k = ns.length := by omega
      go_wp2_with fail
      go_ret
      exact ⟨ret_int (by unfold fifOf; omega), rfl⟩

theorem ref07_Fletcher (v : Value) (ns : List Nat) (w : World) (h : Row .u8 w v ns) (hB : Bytes ns) (hl : ns.length ≤ 100000) :
    Calls Tryz.prog 31 #[v] w fun e w' => e = .returned (.tuple #[.int .u8 (fletA ns : Nat), .int .u8 (fletB ns : Nat)]) ∧ w = w' := by
  obtain ⟨A, c, rfl, hc, hr⟩ := h
  have HR := Lib.hid hr
  clear hr
  go_enter Tryz.func31, Tryz.ntmps31
  go_wp2_with fail
  go_loop [4, 5, 6] (fun p q i => ∃ (k P Q : Nat), k ≤ ns.length ∧ i = .int .i64 (k : Nat) ∧ p = .int .i64 (P : Nat) ∧ q = .int .i64 (Q : Nat) ∧ P < 256 ∧ Q < 256 ∧ Hid (P = addTo ns k % 256) ∧ Hid (Q = wUp ns ns.length k % 256)) (fun _ _ i => ns.length - (intOf i).toNat)
  case atStart => exact ⟨0, 0, 0, Nat.zero_le _, rfl, rfl, rfl, by omega, by omega, Lib.hid rfl, Lib.hid rfl⟩
  case round =>
    obtain ⟨k, P, Q, hk, rfl, rfl, rfl, hP, hQ, eP, eQ⟩ := hrel
    by_cases hlt : k < ns.length
    · obtain ⟨b, o, rfl, hb, hcell⟩ := HR.out (by omega)
      have hx := hcell k hlt
      have hw := hB k
      have HS : Hid ((P + wd ns k) % 256 = addTo ns (k + 1) % 256) := by
        have : addTo ns (k + 1) = addTo ns k + wd ns k := rfl
        show _ = _; rw [eP.out, this]; omega
      have HW : Hid ((Q + wd ns k * ((ns.length - k) % 256)) % 256 = wUp ns ns.length (k + 1) % 256) := by show _ = _; rw [eQ.out]; exact wUp_step ns ns.length k
      have hm : (wd ns k : Int) * ((ns.length - k : Nat) % 256 : Nat) ≤ 65535 := by
        have : wd ns k * ((ns.length - k) % 256) ≤ 255 * 255 := Nat.mul_le_mul (by omega) (by omega)
        have e : (wd ns k : Int) * ((ns.length - k : Nat) % 256 : Nat) = ((wd ns k * ((ns.length - k) % 256) : Nat) : Int) := by simp
        rw [e]; omega
      have hm0 : (0 : Int) ≤ (wd ns k : Int) * ((ns.length - k : Nat) % 256 : Nat) := Int.mul_nonneg (by omega) (by omega)
      have hsub : (((ns.length - k : Nat) % 256 : Nat) : Int) = ((ns.length : Int) - (k : Int)) % 256 := by omega
      rw [hsub] at hm hm0
      have HSUB := Lib.hid hsub
      clear hcell eP eQ hsub
      go_wp2_with fail
      go_round
      case rel => exact ⟨k + 1, (P + wd ns k) % 256, (Q + wd ns k * ((ns.length - k) % 256)) % 256, by omega, by go_num, by go_num, by rw [← HSUB.out]; go_num, Nat.mod_lt _ (by omega), Nat.mod_lt _ (by omega), HS, HW⟩
      case measure => simp [intOf]; omega
    · obtain rfl : k = ns.length := by omega
      have e1 : Hid (P = fletA ns) := eP
      have e2 : Hid (Q = fletB ns) := by show _ = _; rw [eQ.out]; exact (fletTo_w ns ns.length).symm
      clear eP eQ
      go_wp2_with fail
      go_ret2
      exact ⟨by rw [← e1.out, ← e2.out]; rfl, rfl⟩

theorem crc_xor (r : Nat) (hr : r < 4294967296) : Value.int IntKind.u32 (bits BinOp.xor IntKind.u32 ((r : Int) / 2) 3988292384) = Value.int IntKind.u32 ((r / 2 ^^^ poly : Nat) : Int) := by
  rw [show ((r : Int) / 2) = ((r / 2 : Nat) : Int) by omega, show (3988292384 : Int) = ((poly : Nat) : Int) from rfl, bits_xor_u32_n _ _ (by omega) (by decide)]

/- The document's exclusive or, bit by bit. -/
theorem div_byte (x P : Nat) (h : x < 256) : 0 ≤ (x : Int) / (P : Int) ∧ (x : Int) / (P : Int) ≤ 255 := by
  rw [← Int.natCast_ediv]
  have := Nat.div_le_self x P
  generalize x / P = y at this ⊢
  omega

set_option maxRecDepth 100000 in
set_option maxHeartbeats 1000000 in
theorem ref07_Xor (v : Value) (ns : List Nat) (w : World) (h : Row .u8 w v ns) (hB : Bytes ns) (hl : ns.length ≤ 100000) :
    Calls Tryz.prog 76 #[v] w fun e w' => e = .returned (.int .u8 (xorOf ns : Nat)) ∧ w = w' := by
  obtain ⟨A, c, rfl, hc, hr⟩ := h
  have HR := Lib.hid hr
  have hN : xorOf ns < 256 := xorTo_lt hB _
  obtain ⟨N, HN⟩ : ∃ N, Hid (xorOf ns = N) := ⟨_, Lib.hid rfl⟩
  rw [HN.out] at hN ⊢
  clear hr
  go_enter Tryz.func76, Tryz.ntmps76
  go_wp2_with fail
  go_loop [3, 4] (fun o m => ∃ (j P Z : Nat), j ≤ 8 ∧ m = .int .i64 (P : Nat) ∧ o = .int .i64 (Z : Nat) ∧ Hid (2 ^ j = P) ∧ Hid (N % 2 ^ j = Z) ∧ 1 ≤ P ∧ P ≤ 256 ∧ Z < 256 ∧ (P < 256 → j < 8)) (fun _ m => 256 - (intOf m).toNat)
  case atStart => exact ⟨0, 1, 0, by omega, rfl, rfl, Lib.hid rfl, Lib.hid (by simp [Nat.mod_one]), by omega, by omega, by omega, by omega⟩
  case round =>
    obtain ⟨j, P, Z, hj, rfl, rfl, hP, hZ, p1, p2, z1, pj⟩ := hrel
    by_cases hlt : P < 256
    · have hj8 := pj hlt
      clear pj
      have p128 : P ≤ 128 := by
        have : 2 ^ j ≤ 2 ^ 7 := Nat.pow_le_pow_right (by omega) (by omega)
        rw [hP.out] at this; omega
      have HPJ : Hid (P * 2 < 256 → j + 1 < 8) := fun h => by
        have h2 : 2 ^ (j + 1) = P * 2 := by rw [Nat.pow_succ, hP.out]
        rcases Nat.lt_or_ge (j + 1) 8 with q | q
        · exact q
        · have e : j + 1 = 8 := by omega
          rw [e] at h2; omega
      have HP2 : Hid (2 ^ (j + 1) = P * 2) := by show _ = _; rw [Nat.pow_succ, hP.out]
      have HLOW : Hid (N % 2 ^ (j + 1) = if N / P % 2 = 1 then Z + P else Z) := by show _ = _; rw [low_step, hP.out, ← hZ.out, hP.out]
      have HCNT : ∀ k, Hid (bitCount ns j (k + 1) = if wd ns k / P % 2 = 1 then bitCount ns j k + 1 else bitCount ns j k) := fun k => by show _ = _; rw [← hP.out]; rfl
      have HCX : Hid (bitCount ns j ns.length % 2 = N / P % 2) := by show _ = _; rw [bitCount_xor, ← hP.out, ← HN.out]; rfl
      have HCL := bitCount_le ns j
      have hZP : Hid (Z < P) := by show _ < _; rw [← hZ.out, ← hP.out]; exact Nat.mod_lt _ (Nat.two_pow_pos j)
      clear hP hZ
      go_wp2_with fail
      go_loop [5, 6] (fun n i => ∃ (k : Nat), k ≤ ns.length ∧ i = .int .i64 (k : Nat) ∧ n = .int .i64 (bitCount ns j k : Nat)) (fun _ i => ns.length - (intOf i).toNat)
      case atStart => exact ⟨0, Nat.zero_le _, rfl, rfl⟩
      case round =>
        obtain ⟨k, hk, rfl, rfl⟩ := hrel
        have hcl := HCL k
        by_cases hlt2 : k < ns.length
        · obtain ⟨b, o, rfl, hb, hcell⟩ := HR.out (by omega)
          have hx := hcell k hlt2
          have hw := hB k
          have HC := HCNT k
          clear hcell HCL HCNT
          obtain ⟨x, HX⟩ : ∃ x, Hid (wd ns k = x) := ⟨_, Lib.hid rfl⟩
          obtain ⟨C, HCk⟩ : ∃ x, Hid (bitCount ns j k = x) := ⟨_, Lib.hid rfl⟩
          rw [HX.out] at hx hw HC
          rw [HCk.out] at HC hcl
          have HD : (x : Int) / (P : Int) = ((x / P : Nat) : Int) := by simp
          have hq : 0 ≤ (x : Int) / (P : Int) ∧ (x : Int) / (P : Int) ≤ 255 := div_byte x P hw
          obtain ⟨hq0, hq1⟩ := hq
          simp only [HCk.out]
          by_cases hbit : x / P % 2 = 1
          · have HB : Hid (bitCount ns j (k + 1) = C + 1) := by show _ = _; rw [HC.out, if_pos hbit]
            have q : ((x : Int) / (P : Int) % 2 == 1) = true := by rw [HD]; simp; omega
            clear HC hbit HD
            go_wp2_with fail
            go_round
            case rel => exact ⟨k + 1, by omega, by go_num, by rw [HB.out]; go_num⟩
            case measure => simp [intOf]; omega
          · have HB : Hid (bitCount ns j (k + 1) = C) := by show _ = _; rw [HC.out, if_neg hbit]
            have q : ((x : Int) / (P : Int) % 2 == 1) = false := by rw [HD]; simp; omega
            clear HC hbit HD
            go_wp2_with fail
            go_round
            case rel => exact ⟨k + 1, by omega, by go_num, by rw [HB.out]⟩
            case measure => simp [intOf]; omega
        · obtain rfl : k = ns.length := by omega
          clear HCNT HCL
          obtain ⟨C, HCk⟩ : ∃ x, Hid (bitCount ns j ns.length = x) := ⟨_, Lib.hid rfl⟩
          rw [HCk.out] at HCX hcl
          simp only [HCk.out]
          have hzp := hZP.out
          by_cases hbit : C % 2 = 1
          · have HB : Hid (N % 2 ^ (j + 1) = Z + P) := by show _ = _; rw [HLOW.out, if_pos (by rw [← HCX.out]; exact hbit)]
            have q : ((C : Int) % 2 == 1) = true := by simp; omega
            clear HLOW HCX hbit hZP
            go_wp2_with fail
            go_round
            case rel => exact ⟨j + 1, P * 2, Z + P, by omega, by go_num, by go_num, HP2, HB, by omega, by omega, by omega, HPJ.out⟩
            case measure => simp [intOf]; omega
          · have HB : Hid (N % 2 ^ (j + 1) = Z) := by show _ = _; rw [HLOW.out, if_neg (by rw [← HCX.out]; exact hbit)]
            have q : ((C : Int) % 2 == 1) = false := by simp; omega
            clear HLOW HCX hbit hZP
            go_wp2_with fail
            go_round
            case rel => exact ⟨j + 1, P * 2, Z, by omega, by go_num, rfl, HP2, HB, by omega, by omega, by omega, HPJ.out⟩
            case measure => simp [intOf]; omega
    · have e : Hid (Z = N) := by
        have : j = 8 := by
          rcases Nat.lt_or_ge j 8 with h | h
          · exfalso
            have : 2 ^ j ≤ 2 ^ 7 := Nat.pow_le_pow_right (by omega) (by omega)
            rw [hP.out] at this; omega
          · omega
        show _ = _
        rw [← hZ.out, this]; omega
      obtain rfl : P = 256 := by omega
      clear hP hZ
      go_wp2_with fail
      go_ret
      exact ⟨ret_int (by rw [e.out]), rfl⟩
end Go.Proofs.YtcdmbnbanopioaaGreatDoor

