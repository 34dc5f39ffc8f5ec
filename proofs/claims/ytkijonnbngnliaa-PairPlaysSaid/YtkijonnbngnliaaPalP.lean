/-
  The laws of pairings: whatever comes, each pair is the document's.
-/
import Derived.Test.YtkijonnbngnliaaPalA
import Derived.Test.YtkijonnbngnliaaPalK
import Derived.Deep.RegionHeld3
namespace Go.Proofs.Ytkijonnbngnliaa
open Go.RowKit
set_option linter.unusedVariables false

theorem geq_zero {g : Pg} {T : List Tg} (h : SimT T g) : decide (0 ≤ optI (waitI T T.length)) = g.waits.isSome := by
  have := h.waits
  cases hg : g.waits.isSome with
  | true =>
    rw [hg] at this
    have q : ¬ optI (waitI T T.length) < 0 := fun k => by rw [this] at k; cases k
    exact decide_eq_true (by omega)
  | false =>
    rw [hg] at this
    have q : optI (waitI T T.length) < 0 := by rw [this]
    exact decide_eq_false (by omega)
-- [PLAYS
set_option maxRecDepth 100000 in
set_option maxHeartbeats 8000000 in
theorem law_PairPlays (win : Int) (v : Value) (l : List Po) (w : World) (h : PosAt w v l) (hk : PosOk l) (hw : -9223372036854775808 ≤ win ∧ win ≤ 9223372036854775807) :
    Calls Try.prog 3 #[.int .i64 win, v] w fun e w' => e = .returned (.bool true) ∧ Grew w w' := by
  have HK := fun w' => Lib.hid (law_known17 w')
  obtain ⟨A, cp, rfl, hcp⟩ := h.form
  have HH := Lib.hid h
  have HOK := Lib.hid hk
  clear h hk
  by_cases h60 : (60 : Int) < l.length
  · go_enter Try.func3, Try.ntmps3
    go_wp2_with (go_at_call 5; refine (HK _).out.mono ?_; rintro e w2 ⟨rfl, g2⟩)
    go_ret
    exact ⟨rfl, g2⟩
  · by_cases hwin : win < 100000000 ∨ 900000000 < win
    · have HN := Lib.hid (pai_New_no w win hwin)
      rcases hwin with q1 | q1
      · go_enter Try.func3, Try.ntmps3
        go_wp2_with (first
          | (go_at_call 5; refine (HK _).out.mono ?_; rintro e w2 ⟨rfl, g2⟩)
          | (go_at_call 6; refine HN.out.mono ?_; rintro y w1 ⟨rfl, hw1⟩; subst hw1))
        go_ret
        exact ⟨rfl, g2⟩
      · have q2 : ¬ win < 100000000 := by omega
        go_enter Try.func3, Try.ntmps3
        go_wp2_with (first
          | (go_at_call 5; refine (HK _).out.mono ?_; rintro e w2 ⟨rfl, g2⟩)
          | (go_at_call 6; refine HN.out.mono ?_; rintro y w1 ⟨rfl, hw1⟩; subst hw1))
        go_ret
        exact ⟨rfl, g2⟩
    · have hkw : 100000000 ≤ win ∧ win ≤ 900000000 := by omega
      have HN := Lib.hid (pai_New w win hkw)
      have q1 : ¬ win < 100000000 := by omega
      have q2 : ¬ 900000000 < win := by omega
      have HKW := Lib.hid hkw
      clear hkw hwin
      go_enter Try.func3, Try.ntmps3
      go_upto_region 8 with (go_at_call 6; refine HN.out.mono ?_; rintro y w1 ⟨p, q, e, rfl, h1, sz1, g1⟩; replace h1 := Lib.hid h1; replace g1 := Lib.hid g1; replace sz1 := Lib.hid sz1)
      go_upto_region 9 with fail
      have HB : Hid (BothS [] w (w1.alloc (.cells #[.int .i64 win, .slice none 0 0] 31)) p w1.heap.size win (pgNew win) []) := Lib.hid (by
        have k1 := h1.out
        have l1 := k1.top.lt
        have l2 := k1.pag.at_.lt
        have l3 := k1.pag.log.lt
        have s1 := g1.out.size
        have s2 := sz1.out
        refine ⟨q, e, p, .slice none 0 0, fun x hx => (by simp at hx), k1.grew ((Grew.refl _).alloc _), ⟨At.new w1 [.int .i64 win, .slice none 0 0] _, World.ownsRow_nil _ _ _ _, fun b e => (by cases e)⟩, by omega, fun b e => (by cases e), by omega, g1.out.alloc _⟩)
      generalize hV : w1.alloc _ = V at HB ⊢
      generalize w1.heap.size = r at *
      clear hV h1 g1 sz1 HN
      go_wp2_with fail
      go_loopw [5, 7, 54] (fun a b i wr => ∃ (k p r : Nat) (g : Pg) (T : List Tg), k ≤ l.length ∧ a = .pointer (some ⟨p, 0, none⟩) ∧ b = .pointer (some ⟨r, 0, none⟩) ∧ i = .int .i64 (k : Nat) ∧ Hid (BothS [] w wr p r win g T ∧ SimT T g ∧ g.win = win ∧ T.length ≤ k)) (fun _ _ i _ => l.length - (intOf i).toNat)
      case atStart => exact ⟨0, p, r, pgNew win, [], Nat.zero_le _, rfl, rfl, rfl, Lib.hid ⟨HB.out, SimT.new win, rfl, Nat.le_refl _⟩⟩
      case round =>
        clear HB
        obtain ⟨k, p, r, g, T, hk, rfl, rfl, rfl, HE⟩ := hrel
        by_cases hlt : k < l.length
        · obtain ⟨HBo, HSi, HWi, HTl⟩ := HE.out
          obtain ⟨b, o, rfl, hb, hcell⟩ := HH.out.at_ HBo.grown hlt
          have hbo := HOK.out k
          have c0 := hcell 0 _ rfl
          have c1 := hcell 1 _ rfl
          have c2 := hcell 2 _ rfl
          have c3 := hcell 3 _ rfl
          have c4 := hcell 4 _ rfl
          have c5 := hcell 5 _ rfl
          have c6 := hcell 6 _ rfl
          have c7 := hcell 7 _ rfl
          have c8 := hcell 8 _ rfl
          rw [Nat.add_zero] at c0
          have hki : (k : Int) < l.length := by omega
          have hTk : T.length ≤ 1000 := by omega
          have e1 : IntKind.i64.wrap ((k : Int) + 1) = ((k + 1 : Nat) : Int) := by rw [IntWalk.i64_in _ (by omega)]; omega
          generalize po l k = x at *
          obtain ⟨xe, xc, xa, ⟨xk, xu, xs, xl, xy, xn⟩⟩ := x
          simp only at c0 c1 c2 c3 c4 c5 c6 c7 c8 hbo
          clear hcell HE
          go_upto_region 16 with fail
          generalize hV : wr.alloc _ = V
          have HV : Hid (BothS [(wr.heap.size, poC ⟨xe, xc, xa, ⟨xk, xu, xs, xl, xy, xn⟩⟩)] w V p r win g T) := Lib.hid (by rw [← hV]; exact HBo.push (poC ⟨xe, xc, xa, ⟨xk, xu, xs, xl, xy, xn⟩⟩) _)
          generalize hn : wr.heap.size = n at *
          have XV := HV.out.at1
          have e0 := XV.cell 0 _ rfl
          have e2 := XV.cell 1 _ rfl
          have e3 := XV.cell 2 _ rfl
          have e4 := XV.cell 3 _ rfl
          have e5 := XV.cell 4 _ rfl
          have e6 := XV.cell 5 _ rfl
          have e7 := XV.cell 6 _ rfl
          have e8 := XV.cell 7 _ rfl
          have e9 := XV.cell 8 _ rfl
          have ltn := XV.lt
          clear hV hn XV c0 c1 c2 c3 c4 c5 c6 c7 c8
          cases xc with
          | true =>
            have HC1 := Lib.hid (both_Copy HV.out)
            have HC2 := fun w' p' (q : CopyS [(n, poC ⟨xe, true, xa, ⟨xk, xu, xs, xl, xy, xn⟩⟩)] w w' p p' r win g g T) => Lib.hid (copy_Edge q xa hbo.2)
            have HC3 : ∀ w' p' (q : CopyS [(n, poC ⟨xe, true, xa, ⟨xk, xu, xs, xl, xy, xn⟩⟩)] w w' p p' r win (g.edge xa) g T), Hid (Calls Try.prog 9 #[.pointer (some ⟨p, 0, none⟩), .int .i64 xa, .agg #[.int .u8 xk, .bool xu, .int .i64 xs, .bool xl, .int .i64 xy, .bool xn]] w' fun y w'' => y = .returned (.tuple #[pdV ((g.edge xa).msgP xa ⟨xk, xu, xs, xl, xy, xn⟩), .bool ((g.edge xa).msgP xa ⟨xk, xu, xs, xl, xy, xn⟩).isSome]) ∧ CopyS [(n, poC ⟨xe, true, xa, ⟨xk, xu, xs, xl, xy, xn⟩⟩)] w w'' p p' r win ((g.edge xa).msg xa ⟨xk, xu, xs, xl, xy, xn⟩) g T) := fun w' p' q => Lib.hid (copy_Msg q xa ⟨xk, xu, xs, xl, xy, xn⟩ hbo.2)
            have HC4 := fun w' p' (q : CopyS [(n, poC ⟨xe, true, xa, ⟨xk, xu, xs, xl, xy, xn⟩⟩)] w w' p p' r win ((g.edge xa).msg xa ⟨xk, xu, xs, xl, xy, xn⟩) g T) => Lib.hid (copy_doc q (by omega))
            have hq := Lib.hid (geq_zero HSi)
            have HFin : Hid (SimT T g ∧ g.win = win ∧ T.length ≤ k + 1) := Lib.hid ⟨HSi, HWi, by omega⟩
            generalize (g.edge xa).msgP xa ⟨xk, xu, xs, xl, xy, xn⟩ = o2 at *
            generalize (g.edge xa).msg xa ⟨xk, xu, xs, xl, xy, xn⟩ = g3 at *
            generalize g.edgeP xa = o1 at *
            generalize g.edge xa = g2 at *
            go_upto_region 18 with (go_at_call 7; refine HC1.out.mono ?_; rintro y w2 ⟨p', rfl, h2⟩; replace h2 := Lib.hid h2; have X2 := h2.out.at1; have f2 := X2.cell 2 _ rfl; have ltX2 := X2.lt; clear X2)
            go_upto_region 19 with (go_at_call 8; refine (HC2 _ _ h2.out).out.mono ?_; rintro y w3 ⟨rfl, h3⟩; replace h3 := Lib.hid h3)
            have X3 := h3.out.at1
            have d2 := X3.cell 2 _ rfl
            have d3 := X3.cell 3 _ rfl
            have d4 := X3.cell 4 _ rfl
            have d5 := X3.cell 5 _ rfl
            have d6 := X3.cell 6 _ rfl
            have d7 := X3.cell 7 _ rfl
            have d8 := X3.cell 8 _ rfl
            have ltX3 := X3.lt
            clear X3
            go_upto_region 20 with (go_at_call 9; refine (HC3 _ _ h3.out).out.mono ?_; rintro y w4 ⟨rfl, h4⟩; replace h4 := Lib.hid h4)
            go_upto_region 26 with (go_at_call 10; refine (HC4 _ _ h4.out).out.mono ?_; rintro y w5 ⟨r', rfl, h5⟩; replace h5 := Lib.hid h5)
            have hT5 : T.length ≤ 100000 := by omega
            have HW1 := Lib.hid (both_Waits h5.out)
            have HW2 := Lib.hid (both_Waiting h5.out hT5)
            generalize optI (waitI T T.length) = z at *
            generalize g.waits.isSome = bw at *
            have hz := hq.out
            have HG := Lib.hid (And.intro h5.out.drop HFin.out)
            clear hq HFin HC1 HC2 HC3 HC4 h2 h3 h4 h5
            go_wp2_with (first
              | (go_at_call 13; refine HW1.out.mono ?_; rintro y w6 ⟨rfl, hw6⟩; subst hw6)
              | (go_at_call 14; refine HW2.out.mono ?_; rintro y w7 ⟨rfl, hw7⟩; subst hw7))
            go_round
            case rel => exact ⟨k + 1, p', r', g, T, by omega, rfl, rfl, by first | rfl | go_num, HG⟩
            case measure => simp [intOf]; omega
          | false =>
            cases xe with
            | true =>
              obtain ⟨P, HP⟩ : ∃ P, Hid ((g.edgeP xa).getD noPd = P) := ⟨_, Lib.hid rfl⟩
              obtain ⟨sm, HSM⟩ : ∃ sm, Hid ((g.edgeP xa).isSome = sm) := ⟨_, Lib.hid rfl⟩
              have hp : edgeTP T win xa = g.edgeP xa := by rw [← HWi]; exact HSi.edgeP HBo.ok _
              have HE1 : Hid (Calls Try.prog 8 #[.pointer (some ⟨p, 0, none⟩), .int .i64 xa] V fun y w' => y = .returned (.tuple #[.agg #[.int .i64 P.edge, .int .u8 P.msg.kind, .bool P.msg.utc, .int .i64 P.msg.sec, .bool P.msg.leap, .int .i64 P.msg.cycle, .bool P.msg.next], .bool sm]) ∧ BothS [(n, poC ⟨true, false, xa, ⟨xk, xu, xs, xl, xy, xn⟩⟩)] w w' p r win (g.edge xa) T) := Lib.hid (by
                have := both_pEdge HV.out xa hbo.2
                unfold pdV Pd.value at this
                rw [HP.out, HSM.out] at this
                exact this)
              have HE2 : ∀ S w', BothS S w w' p r win (g.edge xa) T → Hid (Calls Try.prog 11 #[.pointer (some ⟨r, 0, none⟩), .int .i64 xa] w' fun y w'' => y = .returned (.tuple #[.agg #[.int .i64 P.edge, .int .u8 P.msg.kind, .bool P.msg.utc, .int .i64 P.msg.sec, .bool P.msg.leap, .int .i64 P.msg.cycle, .bool P.msg.next], .bool sm]) ∧ BothS S w w'' p r win (g.edge xa) (edgeT T win xa)) := fun S w' hq => Lib.hid (by
                have := both_dEdge hq xa (by omega) (HSi.bounds HBo.ok) hbo.2
                unfold pdV Pd.value at this
                rw [hp, HP.out, HSM.out] at this
                exact this)
              have HFin : Hid (SimT (edgeT T win xa) (g.edge xa) ∧ (g.edge xa).win = win ∧ (edgeT T win xa).length ≤ k + 1) := Lib.hid ⟨by have := HSi.edge HBo.ok xa; rw [HWi] at this; exact this, by rw [win_edge]; exact HWi, Nat.le_trans (edgeT_len _ _ _) (by omega)⟩
              have hl1 : (edgeT T win xa).length ≤ 100000 := by have := HFin.out.2.2; omega
              generalize (edgeT T win xa) = T2 at *
              generalize (g.edge xa) = g2 at *
              clear hp HV
              go_upto_region 23 with (go_at_call 8; refine HE1.out.mono ?_; rintro y w2 ⟨rfl, h2⟩)
              generalize hV2 : w2.alloc _ = V2
              have H2 : Hid (BothS [(w2.heap.size, [.int .i64 P.edge, .int .u8 P.msg.kind, .bool P.msg.utc, .int .i64 P.msg.sec, .bool P.msg.leap, .int .i64 P.msg.cycle, .bool P.msg.next]), (n, poC ⟨true, false, xa, ⟨xk, xu, xs, xl, xy, xn⟩⟩)] w V2 p r win g2 T) := Lib.hid (by rw [← hV2]; exact h2.push _ _)
              generalize w2.heap.size = n2 at *
              have X2 := H2.out.at2
              have f0 := X2.cell 0 _ rfl
              have f1 := X2.cell 1 _ rfl
              have f2 := X2.cell 2 _ rfl
              have f3 := X2.cell 3 _ rfl
              have f4 := X2.cell 4 _ rfl
              have f5 := X2.cell 5 _ rfl
              have f6 := X2.cell 6 _ rfl
              have f7 := X2.cell 7 _ rfl
              have f8 := X2.cell 8 _ rfl
              have ltX2 := X2.lt
              clear hV2 h2 X2 HE1
              go_upto_region 24 with (go_at_call 11; refine (HE2 _ _ H2.out).out.mono ?_; rintro y w3 ⟨rfl, h3⟩)
              generalize hV3 : w3.alloc _ = V3
              have H3 : Hid (BothS [(w3.heap.size, [.int .i64 P.edge, .int .u8 P.msg.kind, .bool P.msg.utc, .int .i64 P.msg.sec, .bool P.msg.leap, .int .i64 P.msg.cycle, .bool P.msg.next]), (n2, [.int .i64 P.edge, .int .u8 P.msg.kind, .bool P.msg.utc, .int .i64 P.msg.sec, .bool P.msg.leap, .int .i64 P.msg.cycle, .bool P.msg.next]), (n, poC ⟨true, false, xa, ⟨xk, xu, xs, xl, xy, xn⟩⟩)] w V3 p r win g2 T2) := Lib.hid (by rw [← hV3]; exact h3.push _ _)
              generalize w3.heap.size = n3 at *
              have hq := Lib.hid (geq_zero HFin.out.1)
              have HW1 := Lib.hid (both_Waits H3.out)
              have HW2 := Lib.hid (both_Waiting H3.out hl1)
              generalize optI (waitI T2 T2.length) = z at *
              generalize g2.waits.isSome = bw at *
              have hz := hq.out
              obtain ⟨⟨s0, s1, s2, s3, s4, s5, s6⟩, -⟩ := At.seven H3.out.at1
              obtain ⟨⟨t0, t1, t2, t3, t4, t5, t6⟩, -⟩ := At.seven H3.out.at2
              have lts := H3.out.at1.lt
              have ltt := H3.out.at2.lt
              have HG := Lib.hid (And.intro H3.out.drop HFin.out)
              clear hV3 h3 H2 H3 HE2 hq HFin
              go_upto_region 26 with fail
              go_wp2_with (first
                | (go_at_call 13; refine HW1.out.mono ?_; rintro y w4 ⟨rfl, hw4⟩; subst hw4)
                | (go_at_call 14; refine HW2.out.mono ?_; rintro y w5 ⟨rfl, hw5⟩; subst hw5))
              go_round
              case rel => exact ⟨k + 1, p, r, g2, T2, by omega, rfl, rfl, by first | rfl | go_num, HG⟩
              case measure => simp [intOf]; omega
            | false =>
              obtain ⟨P, HP⟩ : ∃ P, Hid ((g.msgP xa ⟨xk, xu, xs, xl, xy, xn⟩).getD noPd = P) := ⟨_, Lib.hid rfl⟩
              obtain ⟨sm, HSM⟩ : ∃ sm, Hid ((g.msgP xa ⟨xk, xu, xs, xl, xy, xn⟩).isSome = sm) := ⟨_, Lib.hid rfl⟩
              have hp : msgTP T win xa ⟨xk, xu, xs, xl, xy, xn⟩ = g.msgP xa ⟨xk, xu, xs, xl, xy, xn⟩ := by rw [← HWi]; exact HSi.msgP HBo.ok _ _
              have HE1 : Hid (Calls Try.prog 9 #[.pointer (some ⟨p, 0, none⟩), .int .i64 xa, .agg #[.int .u8 xk, .bool xu, .int .i64 xs, .bool xl, .int .i64 xy, .bool xn]] V fun y w' => y = .returned (.tuple #[.agg #[.int .i64 P.edge, .int .u8 P.msg.kind, .bool P.msg.utc, .int .i64 P.msg.sec, .bool P.msg.leap, .int .i64 P.msg.cycle, .bool P.msg.next], .bool sm]) ∧ BothS [(n, poC ⟨false, false, xa, ⟨xk, xu, xs, xl, xy, xn⟩⟩)] w w' p r win (g.msg xa ⟨xk, xu, xs, xl, xy, xn⟩) T) := Lib.hid (by
                have := both_pMsg HV.out xa ⟨xk, xu, xs, xl, xy, xn⟩ hbo.2
                unfold pdV Pd.value Ms.value at this
                rw [HP.out, HSM.out] at this
                exact this)
              have HE2 : ∀ S w', BothS S w w' p r win (g.msg xa ⟨xk, xu, xs, xl, xy, xn⟩) T → Hid (Calls Try.prog 12 #[.pointer (some ⟨r, 0, none⟩), .int .i64 xa, .agg #[.int .u8 xk, .bool xu, .int .i64 xs, .bool xl, .int .i64 xy, .bool xn]] w' fun y w'' => y = .returned (.tuple #[.agg #[.int .i64 P.edge, .int .u8 P.msg.kind, .bool P.msg.utc, .int .i64 P.msg.sec, .bool P.msg.leap, .int .i64 P.msg.cycle, .bool P.msg.next], .bool sm]) ∧ BothS S w w'' p r win (g.msg xa ⟨xk, xu, xs, xl, xy, xn⟩) (msgT T win xa ⟨xk, xu, xs, xl, xy, xn⟩)) := fun S w' hq => Lib.hid (by
                have := both_dMsg hq xa ⟨xk, xu, xs, xl, xy, xn⟩ (by omega) (HSi.bounds HBo.ok) hbo.2 HKW.out
                unfold pdV Pd.value Ms.value at this
                rw [hp, HP.out, HSM.out] at this
                exact this)
              have HFin : Hid (SimT (msgT T win xa ⟨xk, xu, xs, xl, xy, xn⟩) (g.msg xa ⟨xk, xu, xs, xl, xy, xn⟩) ∧ (g.msg xa ⟨xk, xu, xs, xl, xy, xn⟩).win = win ∧ (msgT T win xa ⟨xk, xu, xs, xl, xy, xn⟩).length ≤ k + 1) := Lib.hid ⟨by have := HSi.msg HBo.ok xa ⟨xk, xu, xs, xl, xy, xn⟩; rw [HWi] at this; exact this, by rw [win_msg]; exact HWi, Nat.le_trans (msgT_len _ _ _ _) (by omega)⟩
              have hl1 : (msgT T win xa ⟨xk, xu, xs, xl, xy, xn⟩).length ≤ 100000 := by have := HFin.out.2.2; omega
              generalize (msgT T win xa ⟨xk, xu, xs, xl, xy, xn⟩) = T2 at *
              generalize (g.msg xa ⟨xk, xu, xs, xl, xy, xn⟩) = g2 at *
              clear hp HV
              go_upto_region 13 with (go_at_call 9; refine HE1.out.mono ?_; rintro y w2 ⟨rfl, h2⟩)
              generalize hV2 : w2.alloc _ = V2
              have H2 : Hid (BothS [(w2.heap.size, [.int .i64 P.edge, .int .u8 P.msg.kind, .bool P.msg.utc, .int .i64 P.msg.sec, .bool P.msg.leap, .int .i64 P.msg.cycle, .bool P.msg.next]), (n, poC ⟨false, false, xa, ⟨xk, xu, xs, xl, xy, xn⟩⟩)] w V2 p r win g2 T) := Lib.hid (by rw [← hV2]; exact h2.push _ _)
              generalize w2.heap.size = n2 at *
              have X2 := H2.out.at2
              have f0 := X2.cell 0 _ rfl
              have f1 := X2.cell 1 _ rfl
              have f2 := X2.cell 2 _ rfl
              have f3 := X2.cell 3 _ rfl
              have f4 := X2.cell 4 _ rfl
              have f5 := X2.cell 5 _ rfl
              have f6 := X2.cell 6 _ rfl
              have f7 := X2.cell 7 _ rfl
              have f8 := X2.cell 8 _ rfl
              have ltX2 := X2.lt
              clear hV2 h2 X2 HE1
              go_upto_region 14 with (go_at_call 12; refine (HE2 _ _ H2.out).out.mono ?_; rintro y w3 ⟨rfl, h3⟩)
              generalize hV3 : w3.alloc _ = V3
              have H3 : Hid (BothS [(w3.heap.size, [.int .i64 P.edge, .int .u8 P.msg.kind, .bool P.msg.utc, .int .i64 P.msg.sec, .bool P.msg.leap, .int .i64 P.msg.cycle, .bool P.msg.next]), (n2, [.int .i64 P.edge, .int .u8 P.msg.kind, .bool P.msg.utc, .int .i64 P.msg.sec, .bool P.msg.leap, .int .i64 P.msg.cycle, .bool P.msg.next]), (n, poC ⟨false, false, xa, ⟨xk, xu, xs, xl, xy, xn⟩⟩)] w V3 p r win g2 T2) := Lib.hid (by rw [← hV3]; exact h3.push _ _)
              generalize w3.heap.size = n3 at *
              have hq := Lib.hid (geq_zero HFin.out.1)
              have HW1 := Lib.hid (both_Waits H3.out)
              have HW2 := Lib.hid (both_Waiting H3.out hl1)
              generalize optI (waitI T2 T2.length) = z at *
              generalize g2.waits.isSome = bw at *
              have hz := hq.out
              obtain ⟨⟨s0, s1, s2, s3, s4, s5, s6⟩, -⟩ := At.seven H3.out.at1
              obtain ⟨⟨t0, t1, t2, t3, t4, t5, t6⟩, -⟩ := At.seven H3.out.at2
              have lts := H3.out.at1.lt
              have ltt := H3.out.at2.lt
              have HG := Lib.hid (And.intro H3.out.drop HFin.out)
              clear hV3 h3 H2 H3 HE2 hq HFin
              go_upto_region 26 with fail
              go_wp2_with (first
                | (go_at_call 13; refine HW1.out.mono ?_; rintro y w4 ⟨rfl, hw4⟩; subst hw4)
                | (go_at_call 14; refine HW2.out.mono ?_; rintro y w5 ⟨rfl, hw5⟩; subst hw5))
              go_round
              case rel => exact ⟨k + 1, p, r, g2, T2, by omega, rfl, rfl, by first | rfl | go_num, HG⟩
              case measure => simp [intOf]; omega
        · obtain rfl : k = l.length := by omega
          have HGG := Lib.hid HE.out.1.grown
          go_wp2_with (go_at_call 5; refine (HK _).out.mono ?_; rintro e w9 ⟨rfl, g9⟩)
          go_ret
          exact ⟨rfl, HGG.out.trans g9⟩
-- PLAYS]
end Go.Proofs.Ytkijonnbngnliaa
