/-
  The laws of dialogues: what comes, one thing: a tick, a frame, a copy.
-/
import Derived.Test.YtcdmbnbanopioaaDllC
namespace Go.Proofs.Ytcdmbnbanopioaa
open Go.RowKit
set_option linter.unusedVariables false

def blockIn (n : Nat) : Code → Option Code
  | .block k c => if k = n then some (.block k c) else blockIn n c
  | .loop c => blockIn n c
  | .seq a b => match blockIn n a with
    | some c => some c
    | none => blockIn n b
  | .scope c => blockIn n c
  | .cond _ a b => match blockIn n a with
    | some c => some c
    | none => blockIn n b
  | _ => none
noncomputable def playsCode : Code := (Try.f3.body.bind (blockIn 6)).getD .skip
/-- Four cells side by side. -/
structure FourC (w : World) (p : Nat) (x0 x1 x2 x3 : Value) : Prop where
  lt : p < w.heap.size
  c0 : w.cell? ⟨p, 0, none⟩ = some x0
  c1 : w.cell? ⟨p, 1, none⟩ = some x1
  c2 : w.cell? ⟨p, 2, none⟩ = some x2
  c3 : w.cell? ⟨p, 3, none⟩ = some x3
  f0 : w.frozen? ⟨p, 0, none⟩ = false
theorem FourC.far {F : Nat → Prop} {w w' : World} {p : Nat} {x0 x1 x2 x3 : Value} (h : FourC w p x0 x1 x2 x3) (g : Far F w w') (hF : ¬ F p) : FourC w' p x0 x1 x2 x3 :=
  ⟨Nat.lt_of_lt_of_le h.lt g.size, (g.cell (p := ⟨p, 0, none⟩) h.lt hF).trans h.c0, (g.cell (p := ⟨p, 1, none⟩) h.lt hF).trans h.c1, (g.cell (p := ⟨p, 2, none⟩) h.lt hF).trans h.c2, (g.cell (p := ⟨p, 3, none⟩) h.lt hF).trans h.c3, (g.frozen (p := ⟨p, 0, none⟩) h.lt hF).trans h.f0⟩
theorem tells_row {X : Nat → Prop} {g : Nat} {L : Value} {d : Dlg} {t : Int} {w w' : World} {e : Ending} (h : TickTells X g L d t w e w') :
    ∃ L' fv, e = .returned (.tuple #[fv, .bool (d.tick t).2.isSome]) ∧ DlgAt X w' g L' (d.tick t).1 ∧ Far (fun k => k = g) w w' ∧ (∀ b, L'.ownBlock = some b → L.ownBlock = some b ∨ w.heap.size ≤ b) ∧ Row .u8 w' fv ((d.tick t).2.getD []) := by
  obtain ⟨L', h1, h2, h3, h4⟩ := h
  cases hr : (d.tick t).2 with
  | none => rw [hr] at h4; exact ⟨L', _, h4, h1, h2, h3, Row.nil _ _⟩
  | some bs => rw [hr] at h4; obtain ⟨fv, h4, h5, _⟩ := h4; exact ⟨L', fv, h4, h1, h2, h3, h5⟩
theorem Lies.away {R : (Nat → Prop) → World → Value → (Nat → Prop) → Dlg → Prop} {X K : Nat → Prop} {w wr w' : World} {v : Value} {F G : Nat → Prop} {g : Nat} {L : Value} {d1 d2 : Dlg} (C : DlgCalls R) (h : Lies R X K w wr v F g L d1 d2) (hf : Far G wr w') (hF : ∀ b, F b ∨ K b → ¬ G b) (hg : ¬ G g) (hL : ∀ b, L.ownBlock = some b → ¬ G b) (hG : ∀ b, G b → w.heap.size ≤ b) : Lies R X K w w' v F g L d1 d2 :=
  ⟨C.far h.prog hf hF, h.doc.far hf hg hL (fun b hb e => by have := h.hX b hb; have := hG b e; omega), hf.grew h.grew hG, h.own, h.kow, h.kg, h.kl, h.gw, h.lw, h.ng, h.nl, h.hX⟩
theorem Own.lenD {w : World} {B : Nat} {E : TypeId} {k : IntKind} {g : Option Addr} {c n : Nat} {ns : List Nat} (h : Own B E k w (.slice g n c) ns) : n ≤ maxLen := by
  rcases h.2 with ⟨e, e0⟩ | ⟨b, cap, cur, e, _, _, hn, hm, _⟩
  · cases e; omega
  · cases e; omega
theorem wrap_u8D (v : Int) : IntKind.u8.wrap v = v % 256 := by
  unfold IntKind.wrap
  rfl
set_option maxRecDepth 1000000 in
set_option maxHeartbeats 8000000 in
theorem plays_switch {R : (Nat → Prop) → World → Value → (Nat → Prop) → Dlg → Prop} (C : DlgCalls R) (X KR : Nat → Prop) (w0 wc : World) (po : Nat) (p : Addr) (F : Nat → Prop) (g : Nat) (L : Value) (d : Dlg) (kd at_ : Int) (fk : Nat) (fs : List Nat) (A3 : Option Addr) (c3 : Nat)
    (hL : Hid (Lies R X KR w0 wc (.pointer (some p)) F g L d d)) (hOk : Hid (DlgOk d)) (TV : Hid (FourC wc po (.int .i64 kd) (.int .i64 at_) (.int .u8 (fk : Nat)) (.slice A3 fs.length c3))) (HRV : Hid (∀ w', Grew w0 w' → Row .u8 w' (.slice A3 fs.length c3) fs))
    (hF : Hid (∀ b, F b → b < po)) (hgp : g < po) (hLp : Hid (∀ b, L.ownBlock = some b → b < po)) (hw0 : w0.heap.size ≤ po) (hat : -9223372036854775808 ≤ at_ ∧ at_ ≤ 9223372036854775807) (hfk : fk < 256) (hfB : Hid (Bytes fs)) (hfl : fs.length ≤ 1100)
    (K0 : Act → World → Prop) (t0 t1 t2 t3 t4 t5 t6 t7 t8 t9 t10 t11 t13 t14 t16 t18 t19 t20 t21 t22 t23 t24 t25 t26 t27 t28 t29 t30 t31 t32 t33 t34 t35 t36 t37 t38 t39 t40 t41 t42 t43 t44 t45 t46 t47 t48 t49 t50 t51 t52 t53 t54 t55 t56 t57 t58 t59 t60 t61 t62 t63 t64 t65 t66 t67 t68 t69 t70 t71 t72 t73 t74 t75 t76 t77 t78 t79 t80 t81 t82 t83 t84 t85 t86 t87 t88 t89 t90 t91 t92 t93 t94 t95 t96 t97 t98 t99 t100 t101 t102 t104 t105 t106 t107 t108 t109 t110 t111 t112 t113 t114 t115 t116 t117 t118 t119 t120 t121 t122 t123 t124 t125 t126 t127 t128 t129 t130 t131 t132 t133 t134 t135 t136 t137 t138 t139 t140 t141 t142 t143 t144 t145 t146 t147 t148 t149 t150 t151 t152 t153 t154 t155 t156 t157 t158 t159 t160 t161 t162 t163 t164 t165 t166 t167 t168 t169 t170 t171 t172 t173 t174 t175 t176 t177 t178 t179 t180 t181 t182 t183 t184 t185 t186 t187 t188 t189 t190 t191 t192 t193 t194 t195 t196 t197 t198 t199 t200 t201 : Value)
    (post : ∀ (p2 : Addr) (F2 : Nat → Prop) (g2 : Nat) (L2 : Value) (d2 : Dlg) (wq : World) (s18 s19 s20 s21 s22 s23 s104 s105 s106 s107 s108 s109 s110 s111 s112 s113 s114 s115 s116 s117 s118 s119 s120 s121 s122 s123 s124 s125 s126 s127 s128 s129 s130 s131 s132 s133 s134 s135 s136 s137 s138 s139 s140 s141 s142 s143 s144 s145 s146 s147 s148 s149 s150 s151 s152 s153 s154 s155 s156 s157 s158 s159 s160 s161 s162 s163 s164 s165 s166 s167 : Value), Hid (Lies R X KR w0 wq (.pointer (some p2)) F2 g2 L2 d2 d2) → Hid (DlgOk d2) → K0 ⟨#[t0, t1, t2, t3, t4, t5, t6, t7, t8, t9, t10, t11, .pointer (some p2), t13, t14, .pointer (some ⟨g2, 0, none⟩), t16, .pointer (some ⟨po, 0, none⟩), s18, s19, s20, s21, s22, s23, t24, t25, t26, t27, t28, t29, t30, t31, t32, t33, t34, t35, t36, t37, t38, t39, t40, t41, t42, t43, t44, t45, t46, t47, t48, t49, t50, t51, t52, t53, t54, t55, t56, t57, t58, t59, t60, t61, t62, t63, t64, t65, t66, t67, t68, t69, t70, t71, t72, t73, t74, t75, t76, t77, t78, t79, t80, t81, t82, t83, t84, t85, t86, t87, t88, t89, t90, t91, t92, t93, t94, t95, t96, t97, t98, t99, t100, t101, t102, .int .i64 kd, s104, s105, s106, s107, s108, s109, s110, s111, s112, s113, s114, s115, s116, s117, s118, s119, s120, s121, s122, s123, s124, s125, s126, s127, s128, s129, s130, s131, s132, s133, s134, s135, s136, s137, s138, s139, s140, s141, s142, s143, s144, s145, s146, s147, s148, s149, s150, s151, s152, s153, s154, s155, s156, s157, s158, s159, s160, s161, s162, s163, s164, s165, s166, s167, t168, t169, t170, t171, t172, t173, t174, t175, t176, t177, t178, t179, t180, t181, t182, t183, t184, t185, t186, t187, t188, t189, t190, t191, t192, t193, t194, t195, t196, t197, t198, t199, t200, t201], []⟩ wq) :
    Code.wp Try.prog playsCode (Exit.then K0 fun _ _ _ => False) ⟨#[t0, t1, t2, t3, t4, t5, t6, t7, t8, t9, t10, t11, .pointer (some p), t13, t14, .pointer (some ⟨g, 0, none⟩), t16, .pointer (some ⟨po, 0, none⟩), t18, t19, t20, t21, t22, t23, t24, t25, t26, t27, t28, t29, t30, t31, t32, t33, t34, t35, t36, t37, t38, t39, t40, t41, t42, t43, t44, t45, t46, t47, t48, t49, t50, t51, t52, t53, t54, t55, t56, t57, t58, t59, t60, t61, t62, t63, t64, t65, t66, t67, t68, t69, t70, t71, t72, t73, t74, t75, t76, t77, t78, t79, t80, t81, t82, t83, t84, t85, t86, t87, t88, t89, t90, t91, t92, t93, t94, t95, t96, t97, t98, t99, t100, t101, t102, .int .i64 kd, t104, t105, t106, t107, t108, t109, t110, t111, t112, t113, t114, t115, t116, t117, t118, t119, t120, t121, t122, t123, t124, t125, t126, t127, t128, t129, t130, t131, t132, t133, t134, t135, t136, t137, t138, t139, t140, t141, t142, t143, t144, t145, t146, t147, t148, t149, t150, t151, t152, t153, t154, t155, t156, t157, t158, t159, t160, t161, t162, t163, t164, t165, t166, t167, t168, t169, t170, t171, t172, t173, t174, t175, t176, t177, t178, t179, t180, t181, t182, t183, t184, t185, t186, t187, t188, t189, t190, t191, t192, t193, t194, t195, t196, t197, t198, t199, t200, t201], []⟩ wc := by
  conv => arg 2; whnf
  by_cases k1 : kd = 1
  · subst k1
    have HT := Lib.hid (C.tick KR wc (.pointer (some p)) F d at_ hL.out.prog hOk.out hat)
    obtain ⟨lV, v0, v1, v2, v3, _⟩ := TV.out
    go_upto_region 27 with (go_at_call 10; refine HT.out.mono ?_; rintro e w1 ⟨F1, fv, rfl, hR1, hf1, hs1, ho1, hb1⟩; have HO1 := Lib.hid ho1; obtain ⟨fA, fc, rfl, _⟩ := ho1.row.form)
    have L1 := Lib.hid (hL.out.progs C hR1 hf1 hs1)
    have T1 := TV.out.far hf1 (fun e => Nat.lt_irrefl _ (hF.out po e))
    have HD := Lib.hid (ref14_Tick X g L d w1 at_ L1.out.doc hOk.out.sound hOk.out.came hat (fun b hb => by have := L1.out.hX b hb; have := L1.out.grew.size; omega))
    have hok2 := Lib.hid (hOk.out.tick at_ hat)
    obtain ⟨l1, x0, x1, x2, x3, _⟩ := T1
    clear v0 v1 v2 v3 HT hR1 ho1
    go_upto_region 28 with (go_at_call 11; refine HD.out.mono ?_; intro e w2 h2; obtain ⟨L2, fv2, rfl, hD2, hF2, hL2, hr2⟩ := tells_row h2)
    have LL := Lib.hid (L1.out.docs C hD2 hF2 hL2)
    have hg1 : ¬ F1 g := L1.out.ng
    have hng : ∀ b, (Value.slice fA ((d.tick at_).2.getD []).length fc).ownBlock = some b → ¬ b = g := fun b hb e => by
      subst e
      have := (hb1 b hb).1
      have := hL.out.doc.lt
      omega
    have O2 := Lib.hid (HO1.out.far hF2 (fun b hb e => hng b hb e))
    have q1 := Row.string _ O2.out.row 26 5 Try.underlying26 Try.underlying5 9 Try.underlying9
    have q2 := Row.string _ hr2 26 5 Try.underlying26 Try.underlying5 9 Try.underlying9
    have HAW : Hid (∀ wz, Far (fun b => (Value.slice fA ((d.tick at_).2.getD []).length fc).ownBlock = some b) w2 wz → Lies R X KR w0 wz (.pointer (some p)) F1 g L2 (d.tick at_).1 (d.tick at_).1) := Lib.hid (fun wz hz => LL.out.away C hz (fun b hb e => by
      rcases hb with hb | hb
      · exact (hb1 b e).2 hb
      · have := (hb1 b e).1; have := C.lt hL.out.prog b (.inr hb); omega) (fun e => hng g e rfl) (fun b hb e => by
      rcases hL2 b hb with q | q
      · have := (hb1 b e).1; have := (hL.out.doc.own b q).1; omega
      · have := (HO1.out.lt b e).2; omega) (fun b e => by
      have := (hb1 b e).1; have := hL.out.grew.size; omega))
    obtain ⟨A5, c5, rfl, _⟩ := hr2.form
    have hlb : ((d.tick at_).2.getD []).length ≤ 9223372036854775807 := by have := O2.out.lenD; unfold maxLen at this; omega
    clear hr2 hD2 hF2 hL2 hb1 hs1 hf1 HO1 HD
    generalize hbs : (d.tick at_).2.getD [] = bs at *
    generalize (d.tick at_).2.isSome = rr at *
    clear hbs
    go_wp2_with fail
    go_loopw [132] (fun i wz => ∃ (j : Nat) (ns : List Nat), j ≤ bs.length ∧ i = .int .i64 (j : Nat) ∧ ns.length = bs.length ∧ Hid (Own 0 5 .u8 wz (.slice fA bs.length fc) ns) ∧ Hid (Far (fun b => (Value.slice fA bs.length fc).ownBlock = some b) w2 wz)) (fun i _ => bs.length - (intOf i).toNat)
    case atStart => exact ⟨0, bs, Nat.zero_le _, rfl, rfl, O2, Lib.hid (Far.refl _ _)⟩
    case round =>
      obtain ⟨j, ns, hj, rfl, hns, HO, HFa⟩ := hrel
      by_cases hlt : j < bs.length
      · obtain ⟨gb, cb, e, _, hgb, hcb⟩ := HO.out.head (fun e => by simp at e; omega)
        rw [hns] at e
        cases e
        obtain ⟨y1, y2⟩ := HO.out.cellD hns.symm j (by omega)
        obtain ⟨y, hy⟩ : ∃ y : Nat, (wd ns j + 1) % 256 = y := ⟨_, rfl⟩
        obtain ⟨x, hxx⟩ : ∃ x : Nat, wd ns j = x := ⟨_, rfl⟩
        rw [hxx] at hy y1
        have hx1 : IntKind.u8.wrap ((x : Int) + 1) = (y : Int) := by rw [wrap_u8D]; omega
        have hx2 : ((x : Int) + 1) % 256 = (y : Int) := by omega
        have hji : (j : Int) < bs.length := by omega
        have HO2 := Lib.hid (HO.out.set j y (by omega))
        have HF3 := Lib.hid (HFa.out.setCell (p := ⟨gb, j, none⟩) rfl (.int .u8 (y : Int)))
        have hns2 : (ns.set j y).length = bs.length := by rw [List.length_set]; exact hns
        have HNS := Lib.hid hns2
        clear hns hns2 hxx hy
        go_wp2_with fail
        go_round
        case rel => exact ⟨j + 1, _, by omega, by go_num, HNS.out, HO2, HF3⟩
        case measure => simp [intOf]; omega
      · obtain rfl : j = bs.length := by omega
        have LZ := Lib.hid (HAW.out _ HFa.out)
        go_wp2_with fail
        exact post p F1 g L2 _ _ _ _ _ _ _ _ _ _ _ _ _ _ _ _ _ _ _ _ _ _ _ _ _ _ _ _ _ _ _ _ _ _ _ _ _ _ _ _ _ _ _ _ _ _ _ _ _ _ _ _ _ _ _ _ _ _ _ _ _ _ _ _ _ _ _ _ _ _ _ _ LZ hok2
  · by_cases k2 : kd = 2
    · subst k2
      have n1 : ((2 : Int) == 1) = false := rfl
      have HP := fun (w' : World) (F' : Nat → Prop) (L' : Value) (d2 : Dlg) (h : Lies R X KR w0 w' (.pointer (some p)) F' g L' d d2) => C.frame KR w' (.pointer (some p)) F' d fk _ fs h.prog hOk.out hfk (HRV.out _ h.grew) hfB.out (by omega)
      have HQ := fun (w' : World) (F' : Nat → Prop) (L' : Value) (d1 : Dlg) (h : Lies R X KR w0 w' (.pointer (some p)) F' g L' d1 d) => ref14_Frame X g L' d w' h.doc fk _ fs hfk (HRV.out _ h.grew) hfB.out (by omega) (fun b hb => by have := h.hX b hb; have := h.grew.size; omega)
      have hok2 := Lib.hid (hOk.out.hear (heardOf fk fs).1 (heardOf fk fs).2.1 (heardOf fk fs).2.2.1 (heardOf fk fs).2.2.2)
      have hpF := Lib.hid (show ¬ F po from fun e => Nat.lt_irrefl _ (hF.out po e))
      have hpg := Lib.hid (show ¬ po = g from fun e => by omega)
      unfold FrameTells at HQ
      obtain ⟨rr, hrr⟩ : ∃ rr, (d.hear (heardOf fk fs).1 (heardOf fk fs).2.1 (heardOf fk fs).2.2.1 (heardOf fk fs).2.2.2).2 = rr := ⟨_, rfl⟩
      obtain ⟨dd, hdd⟩ : ∃ dd, (d.hear (heardOf fk fs).1 (heardOf fk fs).2.1 (heardOf fk fs).2.2.1 (heardOf fk fs).2.2.2).1 = dd := ⟨_, rfl⟩
      rw [hdd] at hok2
      simp only [hrr, hdd] at HP HQ
      clear hrr hdd
      have HP' := Lib.hid HP
      have HQ' := Lib.hid HQ
      have LA := hL.out.grown C (Grew.refl wc).drew
      have TA := TV.out.far (Far.of_grew (F := fun _ => False) (Grew.refl wc).drew) (fun q => q)
      obtain ⟨lV, v0, v1, v2, v3, _⟩ := TV.out
      clear HP HQ
      go_upto_region 36 with fail
      go_region_with (first
        | (go_at_call 12; refine (HP'.out _ _ _ _ LA).mono ?_; rintro e w1 ⟨F1, rfl, hR1, hf1, hs1⟩; replace LA := Lies.progs C LA hR1 hf1 hs1; replace TA := TA.far hf1 hpF.out; obtain ⟨l1, x0, x1, x2, x3, _⟩ := id TA)
        | (go_at_call 13; refine (HQ'.out _ _ _ _ LA).mono ?_; rintro e w2 ⟨L2, hL2, rfl, hD2, hF2⟩; replace LA := Lies.docs C LA hD2 hF2 hL2; replace TA := TA.far hF2 hpg.out; obtain ⟨l2, z0, z1, z2, z3, _⟩ := id TA))
      all_goals have LZ := Lib.hid LA
      all_goals clear LA TA
      all_goals go_wp2_with fail
      all_goals exact post p F1 g L2 dd w2 _ _ _ _ _ _ _ _ _ _ _ _ _ _ _ _ _ _ _ _ _ _ _ _ _ _ _ _ _ _ _ _ _ _ _ _ _ _ _ _ _ _ _ _ _ _ _ _ _ _ _ _ _ _ _ _ _ _ _ _ _ _ _ _ _ _ _ _ _ _ LZ hok2
    · by_cases k3 : kd = 3
      · subst k3
        have n1 : ((3 : Int) == 1) = false := rfl
        have n2 : ((3 : Int) == 2) = false := rfl
        have HCP := Lib.hid (C.copy KR wc (.pointer (some p)) F d hL.out.prog hOk.out)
        obtain ⟨lV, v0, v1, v2, v3, _⟩ := TV.out
        go_upto_region 40 with (go_at_call 14; refine HCP.out.mono ?_; rintro e w1 ⟨p2, F2, rfl, hR2, hF2, g1⟩)
        have R2 := Lib.hid hR2
        have La := Lib.hid (hL.out.grown C g1)
        have Ta := Lib.hid (TV.out.far (Far.of_grew (F := fun _ => False) g1) (fun q => q))
        obtain ⟨l1, x0, x1, x2, x3, _⟩ := Ta.out
        have hF2b := Lib.hid (C.lt hR2)
        have hFlt := Lib.hid (C.lt hL.out.prog)
        have hKF := Lib.hid (C.apart hL.out.prog)
        have hF2s := Lib.hid hF2
        have HFR := Lib.hid (C.frame KR w1 (.pointer (some p)) F d fk _ fs La.out.prog hOk.out hfk (HRV.out _ La.out.grew) hfB.out (by omega))
        clear hR2 hF2 HCP v0 v1 v2 v3
        go_upto_region 41 with (go_at_call 12; refine HFR.out.mono ?_; rintro e w3 ⟨F3, rfl, hR3, hf3, hs3⟩)
        have L3 := Lib.hid (La.out.progs C hR3 hf3 hs3)
        have T3 := Lib.hid (Ta.out.far hf3 (fun e => Nat.lt_irrefl _ (hF.out po e)))
        have R3 := Lib.hid (C.far R2.out hf3 (fun b hb e => by
          rcases hb with hb | hb
          · have := hF2s.out b hb; have := hFlt.out b (.inl e); omega
          · exact hKF.out b hb e))
        have hok3 := Lib.hid (hOk.out.hear (heardOf fk fs).1 (heardOf fk fs).2.1 (heardOf fk fs).2.2.1 (heardOf fk fs).2.2.2)
        obtain ⟨l3, z0, z1, z2, z3, _⟩ := T3.out
        have HTK := Lib.hid (C.tick KR w3 (.pointer (some p)) F3 _ at_ hR3 hok3.out hat)
        have hKF3 := Lib.hid (C.apart hR3)
        have hd23 := Lib.hid (fun b (hb : F2 b) (e : F3 b) => by
          rcases hs3 b e with q | q
          · have := hF2s.out b hb; have := hFlt.out b (.inl q); omega
          · have := hF2b.out b (.inl hb); omega : ∀ b, F2 b → F3 b → False)
        clear hR3 hf3 hs3 HFR x0 x1 x2 x3
        go_upto_region 42 with (go_at_call 10; refine HTK.out.mono ?_; rintro e w4 ⟨F4, fv, rfl, hR4, hf4, hs4, ho4, hb4⟩; obtain ⟨fA, fc, rfl, _⟩ := ho4.row.form)
        have L4 := Lib.hid (L3.out.progs C hR4 hf4 hs4)
        have R4 := Lib.hid (C.far R3.out hf4 (fun b hb e => by
          rcases hb with hb | hb
          · exact hd23.out b hb e
          · exact hKF3.out b hb e))
        have hX4 : ∀ b, X b → b < w4.heap.size := fun b hb => by have := L4.out.hX b hb; have := L4.out.grew.size; omega
        have HC2 := Lib.hid (ref14_Copy X g L d w4 L4.out.doc hX4)
        clear hR4 hf4 hs4 ho4 hb4 HTK
        go_wp2_with (go_at_call 15; refine HC2.out.mono ?_; rintro e w5 ⟨g5, L5, rfl, hg5, hL5, hD5, gg5⟩)
        refine post p2 F2 g5 L5 d w5 _ _ _ _ _ _ _ _ _ _ _ _ _ _ _ _ _ _ _ _ _ _ _ _ _ _ _ _ _ _ _ _ _ _ _ _ _ _ _ _ _ _ _ _ _ _ _ _ _ _ _ _ _ _ _ _ _ _ _ _ _ _ _ _ _ _ _ _ _ _ (Lib.hid ⟨C.far R4.out (Far.of_grew (F := fun _ => False) gg5) (fun _ _ q => q), hD5, L4.out.grew.trans gg5, fun b hb => ?_, L4.out.kow, fun e => ?_, fun b hb e => ?_, ?_, fun b hb => ?_, fun e => ?_, fun b hb e => ?_, L4.out.hX⟩) hOk
        · have := hF2s.out b hb; have := hL.out.grew.size; omega
        · have := C.lt R4.out _ (.inr e); omega
        · have := C.lt R4.out _ (.inr e); have := hL5 b hb; omega
        · have := L4.out.grew.size; omega
        · have := hL5 b hb; have := L4.out.grew.size; omega
        · have := C.lt R4.out _ (.inl e); omega
        · have := C.lt R4.out _ (.inl e); have := hL5 b hb; omega
      · have n1 : ((kd : Int) == 1) = false := by rw [beq_eq_false_iff_ne]; exact k1
        have n2 : ((kd : Int) == 2) = false := by rw [beq_eq_false_iff_ne]; exact k2
        have n3 : ((kd : Int) == 3) = false := by rw [beq_eq_false_iff_ne]; exact k3
        go_wp2_with fail
        exact post p F g L d wc _ _ _ _ _ _ _ _ _ _ _ _ _ _ _ _ _ _ _ _ _ _ _ _ _ _ _ _ _ _ _ _ _ _ _ _ _ _ _ _ _ _ _ _ _ _ _ _ _ _ _ _ _ _ _ _ _ _ _ _ _ _ _ _ _ _ _ _ _ _ hL hOk
end Go.Proofs.Ytcdmbnbanopioaa
