/-
  The switch of the law on whatever is done with a ring: its five ways, each on its own.
-/
import Derived.Test.YtabbfgidgcnddaaRngV
namespace Go.Proofs.Ytabbfgidgcnddaa
open Go.RowKit
set_option linter.unusedVariables false

def blockAt (n : Nat) : Code → Option Code
  | .block k c => if k = n then some (.block k c) else blockAt n c
  | .loop c => blockAt n c
  | .seq a b => match blockAt n a with
    | some c => some c
    | none => blockAt n b
  | .scope c => blockAt n c
  | .cond _ a b => match blockAt n a with
    | some c => some c
    | none => blockAt n b
  | _ => none
noncomputable def playsSwitch : Code := (Try.f3.body.bind (blockAt 4)).getD .skip

/-- What holds ahead of the switch. -/
structure Ahead (R : World → Value → (Nat → Prop) → Nat → List Nat → Nat → Prop) (w w2 : World) (rg g sz lost ob bi ci B : Nat) (F : Nat → Prop) (L : Value) (ns xs : List Nat) (nd : Int) (A3 : Option Addr) (c3 : Nat) : Prop where
  both : Both R w w2 rg F g sz L ns lost
  ap : Apart F g L bi
  ao : Apart F g L ob
  hbo : ob < w2.heap.size
  hbi : bi < w2.heap.size
  y1 : w2.cell? ⟨ob, 1, none⟩ = some (.int .i64 nd)
  y2 : w2.cell? ⟨ob, 2, none⟩ = some (.slice A3 xs.length c3)
  hnd : -9223372036854775808 ≤ nd ∧ nd ≤ 9223372036854775807
  hxb : Bytes xs
  hq : xs.length ≤ 20000
  hl1 : lost ≤ 20000
  row : Row .u8 w (.slice A3 xs.length c3) xs
  own : Own B 5 .u8 w2 (.slice (some ⟨bi, 0, none⟩) xs.length ci) xs
  gw : Grew w w2
/-- What holds behind it. -/
structure Behind (R : World → Value → (Nat → Prop) → Nat → List Nat → Nat → Prop) (w wx : World) (rg g sz lost lost1 bi ci B : Nat) (F : Nat → Prop) (L : Value) (ns xs : List Nat) : Prop where
  both : Both R w wx rg F g sz L ns lost1
  ap : Apart F g L bi
  le : lost1 ≤ lost + xs.length
  own : Own B 5 .u8 wx (.slice (some ⟨bi, 0, none⟩) xs.length ci) xs
  gw : Grew w wx

set_option maxRecDepth 1000000 in
set_option maxHeartbeats 8000000 in
theorem switch_1 {R : World → Value → (Nat → Prop) → Nat → List Nat → Nat → Prop} {T : World → Prop} (P : RingCalls R T) {w w2 : World} {rg g sz lost ob bi ci B : Nat} {F : Nat → Prop} {L : Value} {ns xs : List Nat} {nd : Int} {A3 : Option Addr} {c3 : Nat}
    (H : Ahead R w w2 rg g sz lost ob bi ci B F L ns xs nd A3 c3) (ht : T w) (K0 : Act → World → Prop) (t0 t1 t2 t3 t4 t5 t6 t7 t8 t9 t10 t12 t14 t17 t18 t19 t20 t21 t22 t23 t24 t25 t26 t27 t28 t29 t30 t31 t32 t33 t34 t35 t36 t37 t38 t39 t40 t41 t42 t43 t44 t45 t46 t47 t48 t49 t50 t51 t52 t53 t54 t55 t56 t57 t58 t59 t60 t61 t62 t63 t64 t65 t66 t67 t68 t69 t70 t71 t72 t73 t74 t75 t76 t77 t78 t79 t80 t81 t82 t83 t84 t85 t87 t88 t89 t90 t91 t92 t93 t94 t95 t96 t97 t98 t99 t100 t101 t102 t103 t104 t105 t106 t107 t108 t109 t110 t111 t112 t113 t114 t115 t116 t117 t118 t119 t120 t121 t122 t123 t124 t125 t126 t127 t128 t129 t130 t131 t132 t133 t134 t135 t136 t137 t138 t139 t140 t141 t142 t143 t144 t145 t146 t147 t148 t149 t150 t151 t152 t153 t154 t155 t156 t157 t158 t159 t160 t161 t162 t163 t164 t165 t166 t167 t168 t169 t170 t171 t172 t173 t174 t175 t176 t177 t178 t179 t180 t181 t182 t183 t184 t185 t186 t187 t188 t189 t190 t191 t192 t193 t194 t195 t196 t197 t198 t199 t200 t201 t202 t203 t204 t205 t206 t207 t208 t209 t210 t211 t212 t213 t214 t215 t216 t217 t218 t219 t220 t221 t222 t223 t224 t225 t226 t227 t228 t229 t230 t231 t232 t233 t234 t235 t236 t237 t238 t239 t240 t241 t242 t243 t244 t245 t246 t247 : Value)
    (post : ∀ (v17 v18 v87 v88 v89 v90 v91 v92 v93 v94 v95 v96 v97 v98 v99 v100 v101 v102 v103 v104 v105 v106 v107 v108 v109 v110 v111 v112 v113 v114 v115 v116 v117 v118 v119 v120 v121 v122 v123 v124 v125 v126 v127 v128 v129 v130 v131 v132 : Value) (lost1 rg1 g1 : Nat) (F1 : Nat → Prop) (L1 : Value) (ns1 : List Nat) (wx : World), Behind R w wx rg1 g1 sz lost lost1 bi ci B F1 L1 ns1 xs → K0 ⟨#[t0, t1, t2, t3, t4, t5, t6, t7, t8, t9, t10, .pointer (some ⟨rg1, 0, none⟩), t12, .pointer (some ⟨g1, 0, none⟩), t14, .pointer (some ⟨ob, 0, none⟩), .slice (some ⟨bi, 0, none⟩) xs.length ci, v17, v18, t19, t20, t21, t22, t23, t24, t25, t26, t27, t28, t29, t30, t31, t32, t33, t34, t35, t36, t37, t38, t39, t40, t41, t42, t43, t44, t45, t46, t47, t48, t49, t50, t51, t52, t53, t54, t55, t56, t57, t58, t59, t60, t61, t62, t63, t64, t65, t66, t67, t68, t69, t70, t71, t72, t73, t74, t75, t76, t77, t78, t79, t80, t81, t82, t83, t84, t85, .int .i64 (1 : Int), v87, v88, v89, v90, v91, v92, v93, v94, v95, v96, v97, v98, v99, v100, v101, v102, v103, v104, v105, v106, v107, v108, v109, v110, v111, v112, v113, v114, v115, v116, v117, v118, v119, v120, v121, v122, v123, v124, v125, v126, v127, v128, v129, v130, v131, v132, t133, t134, t135, t136, t137, t138, t139, t140, t141, t142, t143, t144, t145, t146, t147, t148, t149, t150, t151, t152, t153, t154, t155, t156, t157, t158, t159, t160, t161, t162, t163, t164, t165, t166, t167, t168, t169, t170, t171, t172, t173, t174, t175, t176, t177, t178, t179, t180, t181, t182, t183, t184, t185, t186, t187, t188, t189, t190, t191, t192, t193, t194, t195, t196, t197, t198, t199, t200, t201, t202, t203, t204, t205, t206, t207, t208, t209, t210, t211, t212, t213, t214, t215, t216, t217, t218, t219, t220, t221, t222, t223, t224, t225, t226, t227, t228, t229, t230, t231, t232, t233, t234, t235, t236, t237, t238, t239, t240, t241, t242, t243, t244, t245, t246, t247], []⟩ wx) :
    Code.wp Try.prog playsSwitch (Exit.then K0 fun _ _ _ => False) ⟨#[t0, t1, t2, t3, t4, t5, t6, t7, t8, t9, t10, .pointer (some ⟨rg, 0, none⟩), t12, .pointer (some ⟨g, 0, none⟩), t14, .pointer (some ⟨ob, 0, none⟩), .slice (some ⟨bi, 0, none⟩) xs.length ci, t17, t18, t19, t20, t21, t22, t23, t24, t25, t26, t27, t28, t29, t30, t31, t32, t33, t34, t35, t36, t37, t38, t39, t40, t41, t42, t43, t44, t45, t46, t47, t48, t49, t50, t51, t52, t53, t54, t55, t56, t57, t58, t59, t60, t61, t62, t63, t64, t65, t66, t67, t68, t69, t70, t71, t72, t73, t74, t75, t76, t77, t78, t79, t80, t81, t82, t83, t84, t85, .int .i64 (1 : Int), t87, t88, t89, t90, t91, t92, t93, t94, t95, t96, t97, t98, t99, t100, t101, t102, t103, t104, t105, t106, t107, t108, t109, t110, t111, t112, t113, t114, t115, t116, t117, t118, t119, t120, t121, t122, t123, t124, t125, t126, t127, t128, t129, t130, t131, t132, t133, t134, t135, t136, t137, t138, t139, t140, t141, t142, t143, t144, t145, t146, t147, t148, t149, t150, t151, t152, t153, t154, t155, t156, t157, t158, t159, t160, t161, t162, t163, t164, t165, t166, t167, t168, t169, t170, t171, t172, t173, t174, t175, t176, t177, t178, t179, t180, t181, t182, t183, t184, t185, t186, t187, t188, t189, t190, t191, t192, t193, t194, t195, t196, t197, t198, t199, t200, t201, t202, t203, t204, t205, t206, t207, t208, t209, t210, t211, t212, t213, t214, t215, t216, t217, t218, t219, t220, t221, t222, t223, t224, t225, t226, t227, t228, t229, t230, t231, t232, t233, t234, t235, t236, t237, t238, t239, t240, t241, t242, t243, t244, t245, t246, t247], []⟩ w2 := by
  have K := Lib.hid P.keep
  have HPOST := Lib.hid post
  clear post
  obtain ⟨hb, hap, hao, hbo, hbi2, y1, y2, hnd, hxb, hq, hl1, hrow, hown, GW⟩ := H
  have HB2 := Lib.hid hb
  have HAP := Lib.hid hap
  have HAO := Lib.hid hao
  have ROWW := Lib.hid hrow
  have HI0 := Lib.hid hown
  clear hb hap hao hrow hown
  conv => arg 2; whnf
  have hinv := P.inv _ _ _ _ _ _ HB2.out.r
  have hov : ringOver sz ns xs ≤ xs.length := by unfold ringOver; omega
  have hg0 := HB2.out.g0
  have ST : Hid (St w w2.drew g bi F L) := ⟨HB2.out.fg, HB2.out.fl, HAP.out, HB2.out.f0, HB2.out.l0, fun b hb => (P.lt w2 _ _ _ _ _ _ HB2.out.r hb : b < w2.heap.size), fun b hb => (HB2.out.ref.own b hb).1, HB2.out.ref.lt, hbi2, GW.size⟩
  have RR : Hid (R w2.drew (.pointer (some ⟨rg, 0, none⟩)) F sz ns lost) := P.grew HB2.out.r ((Grew.refl w2).drew)
  have RF : Hid (RefAt w2.drew g sz L ns lost) := HB2.out.ref.grew ((Grew.refl w2).drew)
  have HI : Hid (Own B 5 .u8 w2.drew (.slice (some ⟨bi, 0, none⟩) xs.length ci) xs) := HI0
  have GX := GW.drew
  have y2d : w2.drew.cell? ⟨ob, 2, none⟩ = some (.slice A3 xs.length c3) := y2
  have SO : Hid (St w w2.drew g ob F L) := ⟨HB2.out.fg, HB2.out.fl, HAO.out, HB2.out.f0, HB2.out.l0, fun b hb => (P.lt w2 _ _ _ _ _ _ HB2.out.r hb : b < w2.heap.size), fun b hb => (HB2.out.ref.own b hb).1, HB2.out.ref.lt, hbo, GW.size⟩
  have HPR : ∀ w', R w' (.pointer (some ⟨rg, 0, none⟩)) F sz ns lost → Own B 5 .u8 w' (.slice (some ⟨bi, 0, none⟩) xs.length ci) xs → Grew w w' → Hid (Calls Try.prog 7 #[.pointer (some ⟨rg, 0, none⟩), .slice (some ⟨bi, 0, none⟩) xs.length ci] w' (RingTurn R (ringOver sz ns xs : Nat) (.pointer (some ⟨rg, 0, none⟩)) F sz (ringPut sz ns xs) (lost + ringOver sz ns xs) w')) := fun w' a b c =>
    Lib.hid (P.put w' _ F sz ns lost _ xs a b.row hxb hq (by omega) (fun _ q hq => by cases hq; exact HAP.out.f) (K.out _ _ ht c))
  have HPW : ∀ w' L', RefAt w' g sz L' ns lost → Grew w w' → Hid (Calls Try.prog 8 #[.pointer (some ⟨g, 0, none⟩), .slice A3 xs.length c3] w' (RefPutR g sz ns xs lost w')) := fun w' L' a c =>
    Lib.hid (ref06_Put g sz L' ns lost _ xs w' a (ROWW.out.grew c) (by omega) (by omega) (by omega) (by omega))
  unfold RefPutR at HPW
  clear hinv HB2 HAP HI0 HAO
  generalize ringOver sz ns xs = ov at *
  generalize ringPut sz ns xs = ms at *
  have ev : ((ov : Int) != (ov : Int)) = false := bne_self_eq_false _
  go_wp2_with fail
  go_region_with (first | (go_at_call 7; refine (HPR _ RR.out HI.out GX).out.mono ?_; rintro e w' ⟨F1, rfl, hR1, hF1, far⟩; have RF := Lib.hid (RF.out.far far ST.out.fg ST.out.fl); have HI := Lib.hid (Own.far HI.out far (fun b hb => by cases hb; exact ST.out.ap.f)); have GX := far.grew GX ST.out.f0; have y2d := (far.cell (p := ⟨ob, 2, none⟩) SO.out.blt SO.out.ap.f).trans y2d; have SO := Lib.hid (SO.out.turnR far.size hF1 (fun b hb => P.lt _ _ _ _ _ _ _ hR1 hb)); have ST := Lib.hid (ST.out.turnR far.size hF1 (fun b hb => P.lt _ _ _ _ _ _ _ hR1 hb)); have RR := Lib.hid hR1; clear hR1 hF1 far) | (go_at_call 8; refine (HPW _ _ RF.out GX).out.mono ?_; rintro e w' ⟨L1, rfl, hRF1, hL1, far⟩; have RR := Lib.hid (P.far _ _ _ _ _ _ _ _ RR.out far (fun b hb e => ST.out.fg (e ▸ hb))); have HI := Lib.hid (Own.far HI.out far (fun b hb e => by cases hb; exact ST.out.ap.g e.symm)); have GX := far.grew GX (fun q hq => by rw [hq]; exact hg0); have y2d := (far.cell (p := ⟨ob, 2, none⟩) SO.out.blt (fun e => SO.out.ap.g e.symm)).trans y2d; have SO := Lib.hid (SO.out.turnL far.size hL1 (fun b hb => (hRF1.own b hb).1)); have ST := Lib.hid (ST.out.turnL far.size hL1 (fun b hb => (hRF1.own b hb).1)); have RF := Lib.hid hRF1; clear hRF1 hL1 far))
  all_goals
    go_wp2_with fail
    exact HPOST.out _ _ _ _ _ _ _ _ _ _ _ _ _ _ _ _ _ _ _ _ _ _ _ _ _ _ _ _ _ _ _ _ _ _ _ _ _ _ _ _ _ _ _ _ _ _ _ _ (lost + ov) rg g _ _ ms _ ⟨Lib.hid (ST.out.both hg0 RR.out RF.out), Lib.hid ST.out.ap, by omega, HI.out, GX⟩

set_option maxRecDepth 1000000 in
set_option maxHeartbeats 8000000 in
theorem switch_2 {R : World → Value → (Nat → Prop) → Nat → List Nat → Nat → Prop} {T : World → Prop} (P : RingCalls R T) {w w2 : World} {rg g sz lost ob bi ci B : Nat} {F : Nat → Prop} {L : Value} {ns xs : List Nat} {nd : Int} {A3 : Option Addr} {c3 : Nat}
    (H : Ahead R w w2 rg g sz lost ob bi ci B F L ns xs nd A3 c3) (ht : T w) (K0 : Act → World → Prop) (t0 t1 t2 t3 t4 t5 t6 t7 t8 t9 t10 t12 t14 t17 t18 t19 t20 t21 t22 t23 t24 t25 t26 t27 t28 t29 t30 t31 t32 t33 t34 t35 t36 t37 t38 t39 t40 t41 t42 t43 t44 t45 t46 t47 t48 t49 t50 t51 t52 t53 t54 t55 t56 t57 t58 t59 t60 t61 t62 t63 t64 t65 t66 t67 t68 t69 t70 t71 t72 t73 t74 t75 t76 t77 t78 t79 t80 t81 t82 t83 t84 t85 t87 t88 t89 t90 t91 t92 t93 t94 t95 t96 t97 t98 t99 t100 t101 t102 t103 t104 t105 t106 t107 t108 t109 t110 t111 t112 t113 t114 t115 t116 t117 t118 t119 t120 t121 t122 t123 t124 t125 t126 t127 t128 t129 t130 t131 t132 t133 t134 t135 t136 t137 t138 t139 t140 t141 t142 t143 t144 t145 t146 t147 t148 t149 t150 t151 t152 t153 t154 t155 t156 t157 t158 t159 t160 t161 t162 t163 t164 t165 t166 t167 t168 t169 t170 t171 t172 t173 t174 t175 t176 t177 t178 t179 t180 t181 t182 t183 t184 t185 t186 t187 t188 t189 t190 t191 t192 t193 t194 t195 t196 t197 t198 t199 t200 t201 t202 t203 t204 t205 t206 t207 t208 t209 t210 t211 t212 t213 t214 t215 t216 t217 t218 t219 t220 t221 t222 t223 t224 t225 t226 t227 t228 t229 t230 t231 t232 t233 t234 t235 t236 t237 t238 t239 t240 t241 t242 t243 t244 t245 t246 t247 : Value)
    (post : ∀ (v17 v18 v87 v88 v89 v90 v91 v92 v93 v94 v95 v96 v97 v98 v99 v100 v101 v102 v103 v104 v105 v106 v107 v108 v109 v110 v111 v112 v113 v114 v115 v116 v117 v118 v119 v120 v121 v122 v123 v124 v125 v126 v127 v128 v129 v130 v131 v132 : Value) (lost1 rg1 g1 : Nat) (F1 : Nat → Prop) (L1 : Value) (ns1 : List Nat) (wx : World), Behind R w wx rg1 g1 sz lost lost1 bi ci B F1 L1 ns1 xs → K0 ⟨#[t0, t1, t2, t3, t4, t5, t6, t7, t8, t9, t10, .pointer (some ⟨rg1, 0, none⟩), t12, .pointer (some ⟨g1, 0, none⟩), t14, .pointer (some ⟨ob, 0, none⟩), .slice (some ⟨bi, 0, none⟩) xs.length ci, v17, v18, t19, t20, t21, t22, t23, t24, t25, t26, t27, t28, t29, t30, t31, t32, t33, t34, t35, t36, t37, t38, t39, t40, t41, t42, t43, t44, t45, t46, t47, t48, t49, t50, t51, t52, t53, t54, t55, t56, t57, t58, t59, t60, t61, t62, t63, t64, t65, t66, t67, t68, t69, t70, t71, t72, t73, t74, t75, t76, t77, t78, t79, t80, t81, t82, t83, t84, t85, .int .i64 (2 : Int), v87, v88, v89, v90, v91, v92, v93, v94, v95, v96, v97, v98, v99, v100, v101, v102, v103, v104, v105, v106, v107, v108, v109, v110, v111, v112, v113, v114, v115, v116, v117, v118, v119, v120, v121, v122, v123, v124, v125, v126, v127, v128, v129, v130, v131, v132, t133, t134, t135, t136, t137, t138, t139, t140, t141, t142, t143, t144, t145, t146, t147, t148, t149, t150, t151, t152, t153, t154, t155, t156, t157, t158, t159, t160, t161, t162, t163, t164, t165, t166, t167, t168, t169, t170, t171, t172, t173, t174, t175, t176, t177, t178, t179, t180, t181, t182, t183, t184, t185, t186, t187, t188, t189, t190, t191, t192, t193, t194, t195, t196, t197, t198, t199, t200, t201, t202, t203, t204, t205, t206, t207, t208, t209, t210, t211, t212, t213, t214, t215, t216, t217, t218, t219, t220, t221, t222, t223, t224, t225, t226, t227, t228, t229, t230, t231, t232, t233, t234, t235, t236, t237, t238, t239, t240, t241, t242, t243, t244, t245, t246, t247], []⟩ wx) :
    Code.wp Try.prog playsSwitch (Exit.then K0 fun _ _ _ => False) ⟨#[t0, t1, t2, t3, t4, t5, t6, t7, t8, t9, t10, .pointer (some ⟨rg, 0, none⟩), t12, .pointer (some ⟨g, 0, none⟩), t14, .pointer (some ⟨ob, 0, none⟩), .slice (some ⟨bi, 0, none⟩) xs.length ci, t17, t18, t19, t20, t21, t22, t23, t24, t25, t26, t27, t28, t29, t30, t31, t32, t33, t34, t35, t36, t37, t38, t39, t40, t41, t42, t43, t44, t45, t46, t47, t48, t49, t50, t51, t52, t53, t54, t55, t56, t57, t58, t59, t60, t61, t62, t63, t64, t65, t66, t67, t68, t69, t70, t71, t72, t73, t74, t75, t76, t77, t78, t79, t80, t81, t82, t83, t84, t85, .int .i64 (2 : Int), t87, t88, t89, t90, t91, t92, t93, t94, t95, t96, t97, t98, t99, t100, t101, t102, t103, t104, t105, t106, t107, t108, t109, t110, t111, t112, t113, t114, t115, t116, t117, t118, t119, t120, t121, t122, t123, t124, t125, t126, t127, t128, t129, t130, t131, t132, t133, t134, t135, t136, t137, t138, t139, t140, t141, t142, t143, t144, t145, t146, t147, t148, t149, t150, t151, t152, t153, t154, t155, t156, t157, t158, t159, t160, t161, t162, t163, t164, t165, t166, t167, t168, t169, t170, t171, t172, t173, t174, t175, t176, t177, t178, t179, t180, t181, t182, t183, t184, t185, t186, t187, t188, t189, t190, t191, t192, t193, t194, t195, t196, t197, t198, t199, t200, t201, t202, t203, t204, t205, t206, t207, t208, t209, t210, t211, t212, t213, t214, t215, t216, t217, t218, t219, t220, t221, t222, t223, t224, t225, t226, t227, t228, t229, t230, t231, t232, t233, t234, t235, t236, t237, t238, t239, t240, t241, t242, t243, t244, t245, t246, t247], []⟩ w2 := by
  have K := Lib.hid P.keep
  have HPOST := Lib.hid post
  clear post
  obtain ⟨hb, hap, hao, hbo, hbi2, y1, y2, hnd, hxb, hq, hl1, hrow, hown, GW⟩ := H
  have HB2 := Lib.hid hb
  have HAP := Lib.hid hap
  have HAO := Lib.hid hao
  have ROWW := Lib.hid hrow
  have HI0 := Lib.hid hown
  clear hb hap hao hrow hown
  conv => arg 2; whnf
  have hg0 := HB2.out.g0
  have hinv := P.inv _ _ _ _ _ _ HB2.out.r
  have ST : Hid (St w w2.drew g bi F L) := ⟨HB2.out.fg, HB2.out.fl, HAP.out, HB2.out.f0, HB2.out.l0, fun b hb => (P.lt w2 _ _ _ _ _ _ HB2.out.r hb : b < w2.heap.size), fun b hb => (HB2.out.ref.own b hb).1, HB2.out.ref.lt, hbi2, GW.size⟩
  have SO : Hid (St w w2.drew g ob F L) := ⟨HB2.out.fg, HB2.out.fl, HAO.out, HB2.out.f0, HB2.out.l0, fun b hb => (P.lt w2 _ _ _ _ _ _ HB2.out.r hb : b < w2.heap.size), fun b hb => (HB2.out.ref.own b hb).1, HB2.out.ref.lt, hbo, GW.size⟩
  have RR : Hid (R w2.drew (.pointer (some ⟨rg, 0, none⟩)) F sz ns lost) := P.grew HB2.out.r ((Grew.refl w2).drew)
  have RF : Hid (RefAt w2.drew g sz L ns lost) := HB2.out.ref.grew ((Grew.refl w2).drew)
  have HI : Hid (Own B 5 .u8 w2.drew (.slice (some ⟨bi, 0, none⟩) xs.length ci) xs) := HI0
  have GX := GW.drew
  have HPR : ∀ w', R w' (.pointer (some ⟨rg, 0, none⟩)) F sz ns lost → Grew w w' → Hid (Calls Try.prog 9 #[.pointer (some ⟨rg, 0, none⟩), .int .i64 nd] w' (RingTurn R (min nd.toNat ns.length : Nat) (.pointer (some ⟨rg, 0, none⟩)) F sz (ns.drop (min nd.toNat ns.length)) lost w')) := fun w' a c =>
    Lib.hid (P.drop w' _ F sz ns lost nd a hnd (K.out _ _ ht c))
  have HPW : ∀ w' L', RefAt w' g sz L' ns lost → Grew w w' → Hid (Calls Try.prog 10 #[.pointer (some ⟨g, 0, none⟩), .int .i64 nd] w' (RefDrop g sz L' ns lost nd.toNat w')) := fun w' L' a c =>
    Lib.hid (ref06_Drop g sz L' ns lost nd w' a (by omega) hnd)
  have y1d : w2.drew.cell? ⟨ob, 1, none⟩ = some (.int .i64 nd) := y1
  unfold RefDrop at HPW
  clear hinv HB2 HAP HI0 HAO
  generalize ns.drop (min nd.toNat ns.length) = ms at *
  generalize min nd.toNat ns.length = mm at *
  have ev : ((mm : Int) != (mm : Int)) = false := bne_self_eq_false _
  go_wp2_with fail
  go_region_with (first | (go_at_call 9; refine (HPR _ RR.out GX).out.mono ?_; rintro e w' ⟨F1, rfl, hR1, hF1, far⟩; have RF := Lib.hid (RF.out.far far ST.out.fg ST.out.fl); have HI := Lib.hid (Own.far HI.out far (fun b hb => by cases hb; exact ST.out.ap.f)); have GX := far.grew GX ST.out.f0; have y1d := (far.cell (p := ⟨ob, 1, none⟩) SO.out.blt SO.out.ap.f).trans y1d; have ST := Lib.hid (ST.out.turnR far.size hF1 (fun b hb => P.lt _ _ _ _ _ _ _ hR1 hb)); have SO := Lib.hid (SO.out.turnR far.size hF1 (fun b hb => P.lt _ _ _ _ _ _ _ hR1 hb)); have RR := Lib.hid hR1; clear hR1 hF1 far) | (go_at_call 10; refine (HPW _ _ RF.out GX).out.mono ?_; rintro e w' ⟨L1, rfl, hRF1, hL1, far⟩; have RR := Lib.hid (P.far _ _ _ _ _ _ _ _ RR.out far (fun b hb e => ST.out.fg (e ▸ hb))); have HI := Lib.hid (Own.far HI.out far (fun b hb e => by cases hb; exact ST.out.ap.g e.symm)); have GX := far.grew GX (fun q hq => by rw [hq]; exact hg0); have y1d := (far.cell (p := ⟨ob, 1, none⟩) SO.out.blt (fun e => SO.out.ap.g e.symm)).trans y1d; have ST := Lib.hid (ST.out.same far.size hL1); have SO := Lib.hid (SO.out.same far.size hL1); have RF := Lib.hid hRF1; clear hRF1 hL1 far))
  all_goals
    go_wp2_with fail
    exact HPOST.out _ _ _ _ _ _ _ _ _ _ _ _ _ _ _ _ _ _ _ _ _ _ _ _ _ _ _ _ _ _ _ _ _ _ _ _ _ _ _ _ _ _ _ _ _ _ _ _ lost rg g _ _ ms _ ⟨Lib.hid (ST.out.both hg0 RR.out RF.out), Lib.hid ST.out.ap, by omega, HI.out, GX⟩

set_option maxRecDepth 1000000 in
set_option maxHeartbeats 8000000 in
theorem switch_3 {R : World → Value → (Nat → Prop) → Nat → List Nat → Nat → Prop} {T : World → Prop} (P : RingCalls R T) {w w2 : World} {rg g sz lost ob bi ci B : Nat} {F : Nat → Prop} {L : Value} {ns xs : List Nat} {nd : Int} {A3 : Option Addr} {c3 : Nat}
    (H : Ahead R w w2 rg g sz lost ob bi ci B F L ns xs nd A3 c3) (ht : T w) (K0 : Act → World → Prop) (t0 t1 t2 t3 t4 t5 t6 t7 t8 t9 t10 t12 t14 t17 t18 t19 t20 t21 t22 t23 t24 t25 t26 t27 t28 t29 t30 t31 t32 t33 t34 t35 t36 t37 t38 t39 t40 t41 t42 t43 t44 t45 t46 t47 t48 t49 t50 t51 t52 t53 t54 t55 t56 t57 t58 t59 t60 t61 t62 t63 t64 t65 t66 t67 t68 t69 t70 t71 t72 t73 t74 t75 t76 t77 t78 t79 t80 t81 t82 t83 t84 t85 t87 t88 t89 t90 t91 t92 t93 t94 t95 t96 t97 t98 t99 t100 t101 t102 t103 t104 t105 t106 t107 t108 t109 t110 t111 t112 t113 t114 t115 t116 t117 t118 t119 t120 t121 t122 t123 t124 t125 t126 t127 t128 t129 t130 t131 t132 t133 t134 t135 t136 t137 t138 t139 t140 t141 t142 t143 t144 t145 t146 t147 t148 t149 t150 t151 t152 t153 t154 t155 t156 t157 t158 t159 t160 t161 t162 t163 t164 t165 t166 t167 t168 t169 t170 t171 t172 t173 t174 t175 t176 t177 t178 t179 t180 t181 t182 t183 t184 t185 t186 t187 t188 t189 t190 t191 t192 t193 t194 t195 t196 t197 t198 t199 t200 t201 t202 t203 t204 t205 t206 t207 t208 t209 t210 t211 t212 t213 t214 t215 t216 t217 t218 t219 t220 t221 t222 t223 t224 t225 t226 t227 t228 t229 t230 t231 t232 t233 t234 t235 t236 t237 t238 t239 t240 t241 t242 t243 t244 t245 t246 t247 : Value)
    (post : ∀ (v17 v18 v87 v88 v89 v90 v91 v92 v93 v94 v95 v96 v97 v98 v99 v100 v101 v102 v103 v104 v105 v106 v107 v108 v109 v110 v111 v112 v113 v114 v115 v116 v117 v118 v119 v120 v121 v122 v123 v124 v125 v126 v127 v128 v129 v130 v131 v132 : Value) (lost1 rg1 g1 : Nat) (F1 : Nat → Prop) (L1 : Value) (ns1 : List Nat) (wx : World), Behind R w wx rg1 g1 sz lost lost1 bi ci B F1 L1 ns1 xs → K0 ⟨#[t0, t1, t2, t3, t4, t5, t6, t7, t8, t9, t10, .pointer (some ⟨rg1, 0, none⟩), t12, .pointer (some ⟨g1, 0, none⟩), t14, .pointer (some ⟨ob, 0, none⟩), .slice (some ⟨bi, 0, none⟩) xs.length ci, v17, v18, t19, t20, t21, t22, t23, t24, t25, t26, t27, t28, t29, t30, t31, t32, t33, t34, t35, t36, t37, t38, t39, t40, t41, t42, t43, t44, t45, t46, t47, t48, t49, t50, t51, t52, t53, t54, t55, t56, t57, t58, t59, t60, t61, t62, t63, t64, t65, t66, t67, t68, t69, t70, t71, t72, t73, t74, t75, t76, t77, t78, t79, t80, t81, t82, t83, t84, t85, .int .i64 (3 : Int), v87, v88, v89, v90, v91, v92, v93, v94, v95, v96, v97, v98, v99, v100, v101, v102, v103, v104, v105, v106, v107, v108, v109, v110, v111, v112, v113, v114, v115, v116, v117, v118, v119, v120, v121, v122, v123, v124, v125, v126, v127, v128, v129, v130, v131, v132, t133, t134, t135, t136, t137, t138, t139, t140, t141, t142, t143, t144, t145, t146, t147, t148, t149, t150, t151, t152, t153, t154, t155, t156, t157, t158, t159, t160, t161, t162, t163, t164, t165, t166, t167, t168, t169, t170, t171, t172, t173, t174, t175, t176, t177, t178, t179, t180, t181, t182, t183, t184, t185, t186, t187, t188, t189, t190, t191, t192, t193, t194, t195, t196, t197, t198, t199, t200, t201, t202, t203, t204, t205, t206, t207, t208, t209, t210, t211, t212, t213, t214, t215, t216, t217, t218, t219, t220, t221, t222, t223, t224, t225, t226, t227, t228, t229, t230, t231, t232, t233, t234, t235, t236, t237, t238, t239, t240, t241, t242, t243, t244, t245, t246, t247], []⟩ wx) :
    Code.wp Try.prog playsSwitch (Exit.then K0 fun _ _ _ => False) ⟨#[t0, t1, t2, t3, t4, t5, t6, t7, t8, t9, t10, .pointer (some ⟨rg, 0, none⟩), t12, .pointer (some ⟨g, 0, none⟩), t14, .pointer (some ⟨ob, 0, none⟩), .slice (some ⟨bi, 0, none⟩) xs.length ci, t17, t18, t19, t20, t21, t22, t23, t24, t25, t26, t27, t28, t29, t30, t31, t32, t33, t34, t35, t36, t37, t38, t39, t40, t41, t42, t43, t44, t45, t46, t47, t48, t49, t50, t51, t52, t53, t54, t55, t56, t57, t58, t59, t60, t61, t62, t63, t64, t65, t66, t67, t68, t69, t70, t71, t72, t73, t74, t75, t76, t77, t78, t79, t80, t81, t82, t83, t84, t85, .int .i64 (3 : Int), t87, t88, t89, t90, t91, t92, t93, t94, t95, t96, t97, t98, t99, t100, t101, t102, t103, t104, t105, t106, t107, t108, t109, t110, t111, t112, t113, t114, t115, t116, t117, t118, t119, t120, t121, t122, t123, t124, t125, t126, t127, t128, t129, t130, t131, t132, t133, t134, t135, t136, t137, t138, t139, t140, t141, t142, t143, t144, t145, t146, t147, t148, t149, t150, t151, t152, t153, t154, t155, t156, t157, t158, t159, t160, t161, t162, t163, t164, t165, t166, t167, t168, t169, t170, t171, t172, t173, t174, t175, t176, t177, t178, t179, t180, t181, t182, t183, t184, t185, t186, t187, t188, t189, t190, t191, t192, t193, t194, t195, t196, t197, t198, t199, t200, t201, t202, t203, t204, t205, t206, t207, t208, t209, t210, t211, t212, t213, t214, t215, t216, t217, t218, t219, t220, t221, t222, t223, t224, t225, t226, t227, t228, t229, t230, t231, t232, t233, t234, t235, t236, t237, t238, t239, t240, t241, t242, t243, t244, t245, t246, t247], []⟩ w2 := by
  have K := Lib.hid P.keep
  have HPOST := Lib.hid post
  clear post
  obtain ⟨hb, hap, hao, hbo, hbi2, y1, y2, hnd, hxb, hq, hl1, hrow, hown, GW⟩ := H
  have HB2 := Lib.hid hb
  have HAP := Lib.hid hap
  have HAO := Lib.hid hao
  have ROWW := Lib.hid hrow
  have HI0 := Lib.hid hown
  clear hb hap hao hrow hown
  conv => arg 2; whnf
  have hinv := (P.inv _ _ _ _ _ _ HB2.out.r).2.1
  have hszk := (P.inv _ _ _ _ _ _ HB2.out.r).1.2
  have H1 := Lib.hid (P.copy w2 _ F sz ns lost HB2.out.r (K.out _ _ ht GW))
  go_wp2_with fail
  refine H1.out.mono ?_
  rintro e w3 ⟨g3, F3, rfl, hR3, hF3, g23⟩
  have H2 := Lib.hid (P.put w3 _ F sz ns lost _ xs (P.grew HB2.out.r g23) (Own.grew HI0.out g23).row hxb hq (by omega) (fun _ q hq => by cases hq; exact HAP.out.f) (K.out _ _ ht (GW.trans g23)))
  have y1a := (g23.cell (p := ⟨ob, 1, none⟩) hbo).trans y1
  have HR3 := Lib.hid hR3
  have HF3 := Lib.hid hF3
  clear hR3 hF3 H1
  go_wp2_with fail
  refine H2.out.mono ?_
  rintro e w4 ⟨F4, rfl, hR4, hF4, far4⟩
  have y1b := (far4.cell (p := ⟨ob, 1, none⟩) (Nat.lt_of_lt_of_le hbo g23.size) HAO.out.f).trans y1a
  have HF4 := Lib.hid hF4
  have FAR4 := Lib.hid far4
  have H3 := Lib.hid (P.drop w4 _ F4 sz _ _ nd hR4 hnd (K.out _ _ ht (far4.grew (GW.trans g23) HB2.out.f0)))
  clear hR4 hF4 far4 H2
  go_wp2_with fail
  refine H3.out.mono ?_
  rintro e w5 ⟨F5, rfl, hR5, hF5, far5⟩
  clear hR5 hF5 H3
  obtain ⟨hA5, G5, hown5, hfin⟩ := copied_on P HB2.out HAP.out hbi2 GW HR3.out HF3.out g23 HF4.out FAR4.out far5
  have H4 := Lib.hid (ref06_Copy g sz L ns lost w5 hA5 (by omega))
  have HI5 : Hid (Own B 5 .u8 w5 (.slice (some ⟨bi, 0, none⟩) xs.length ci) xs) := hown5 _ _ _ _ _ HI0.out (fun b hb => by cases hb; rfl)
  have HFIN := Lib.hid hfin
  clear hA5 hown5 hfin far5
  go_wp2_with fail
  refine H4.out.mono ?_
  rintro e w6 ⟨g6, L6, rfl, hr6, hg6, hL6, g56⟩
  have hh := HFIN.out w6 g6 L6 hr6 hg6 hL6 g56
  have HH1 := Lib.hid hh.1
  have HH2 := Lib.hid hh.2
  clear hr6 hg6 hL6 hh H4
  go_wp2_with fail
  exact HPOST.out _ _ _ _ _ _ _ _ _ _ _ _ _ _ _ _ _ _ _ _ _ _ _ _ _ _ _ _ _ _ _ _ _ _ _ _ _ _ _ _ _ _ _ _ _ _ _ _ lost g3 g6 F3 L6 ns _ ⟨HH1.out, HH2.out, by omega, Own.grew HI5.out g56, G5.trans g56⟩

set_option maxRecDepth 1000000 in
set_option maxHeartbeats 8000000 in
theorem switch_4 {R : World → Value → (Nat → Prop) → Nat → List Nat → Nat → Prop} {T : World → Prop} (P : RingCalls R T) {w w2 : World} {rg g sz lost ob bi ci B : Nat} {F : Nat → Prop} {L : Value} {ns xs : List Nat} {nd : Int} {A3 : Option Addr} {c3 : Nat}
    (H : Ahead R w w2 rg g sz lost ob bi ci B F L ns xs nd A3 c3) (ht : T w) (K0 : Act → World → Prop) (t0 t1 t2 t3 t4 t5 t6 t7 t8 t9 t10 t12 t14 t17 t18 t19 t20 t21 t22 t23 t24 t25 t26 t27 t28 t29 t30 t31 t32 t33 t34 t35 t36 t37 t38 t39 t40 t41 t42 t43 t44 t45 t46 t47 t48 t49 t50 t51 t52 t53 t54 t55 t56 t57 t58 t59 t60 t61 t62 t63 t64 t65 t66 t67 t68 t69 t70 t71 t72 t73 t74 t75 t76 t77 t78 t79 t80 t81 t82 t83 t84 t85 t87 t88 t89 t90 t91 t92 t93 t94 t95 t96 t97 t98 t99 t100 t101 t102 t103 t104 t105 t106 t107 t108 t109 t110 t111 t112 t113 t114 t115 t116 t117 t118 t119 t120 t121 t122 t123 t124 t125 t126 t127 t128 t129 t130 t131 t132 t133 t134 t135 t136 t137 t138 t139 t140 t141 t142 t143 t144 t145 t146 t147 t148 t149 t150 t151 t152 t153 t154 t155 t156 t157 t158 t159 t160 t161 t162 t163 t164 t165 t166 t167 t168 t169 t170 t171 t172 t173 t174 t175 t176 t177 t178 t179 t180 t181 t182 t183 t184 t185 t186 t187 t188 t189 t190 t191 t192 t193 t194 t195 t196 t197 t198 t199 t200 t201 t202 t203 t204 t205 t206 t207 t208 t209 t210 t211 t212 t213 t214 t215 t216 t217 t218 t219 t220 t221 t222 t223 t224 t225 t226 t227 t228 t229 t230 t231 t232 t233 t234 t235 t236 t237 t238 t239 t240 t241 t242 t243 t244 t245 t246 t247 : Value)
    (post : ∀ (v17 v18 v87 v88 v89 v90 v91 v92 v93 v94 v95 v96 v97 v98 v99 v100 v101 v102 v103 v104 v105 v106 v107 v108 v109 v110 v111 v112 v113 v114 v115 v116 v117 v118 v119 v120 v121 v122 v123 v124 v125 v126 v127 v128 v129 v130 v131 v132 : Value) (lost1 rg1 g1 : Nat) (F1 : Nat → Prop) (L1 : Value) (ns1 : List Nat) (wx : World), Behind R w wx rg1 g1 sz lost lost1 bi ci B F1 L1 ns1 xs → K0 ⟨#[t0, t1, t2, t3, t4, t5, t6, t7, t8, t9, t10, .pointer (some ⟨rg1, 0, none⟩), t12, .pointer (some ⟨g1, 0, none⟩), t14, .pointer (some ⟨ob, 0, none⟩), .slice (some ⟨bi, 0, none⟩) xs.length ci, v17, v18, t19, t20, t21, t22, t23, t24, t25, t26, t27, t28, t29, t30, t31, t32, t33, t34, t35, t36, t37, t38, t39, t40, t41, t42, t43, t44, t45, t46, t47, t48, t49, t50, t51, t52, t53, t54, t55, t56, t57, t58, t59, t60, t61, t62, t63, t64, t65, t66, t67, t68, t69, t70, t71, t72, t73, t74, t75, t76, t77, t78, t79, t80, t81, t82, t83, t84, t85, .int .i64 (4 : Int), v87, v88, v89, v90, v91, v92, v93, v94, v95, v96, v97, v98, v99, v100, v101, v102, v103, v104, v105, v106, v107, v108, v109, v110, v111, v112, v113, v114, v115, v116, v117, v118, v119, v120, v121, v122, v123, v124, v125, v126, v127, v128, v129, v130, v131, v132, t133, t134, t135, t136, t137, t138, t139, t140, t141, t142, t143, t144, t145, t146, t147, t148, t149, t150, t151, t152, t153, t154, t155, t156, t157, t158, t159, t160, t161, t162, t163, t164, t165, t166, t167, t168, t169, t170, t171, t172, t173, t174, t175, t176, t177, t178, t179, t180, t181, t182, t183, t184, t185, t186, t187, t188, t189, t190, t191, t192, t193, t194, t195, t196, t197, t198, t199, t200, t201, t202, t203, t204, t205, t206, t207, t208, t209, t210, t211, t212, t213, t214, t215, t216, t217, t218, t219, t220, t221, t222, t223, t224, t225, t226, t227, t228, t229, t230, t231, t232, t233, t234, t235, t236, t237, t238, t239, t240, t241, t242, t243, t244, t245, t246, t247], []⟩ wx) :
    Code.wp Try.prog playsSwitch (Exit.then K0 fun _ _ _ => False) ⟨#[t0, t1, t2, t3, t4, t5, t6, t7, t8, t9, t10, .pointer (some ⟨rg, 0, none⟩), t12, .pointer (some ⟨g, 0, none⟩), t14, .pointer (some ⟨ob, 0, none⟩), .slice (some ⟨bi, 0, none⟩) xs.length ci, t17, t18, t19, t20, t21, t22, t23, t24, t25, t26, t27, t28, t29, t30, t31, t32, t33, t34, t35, t36, t37, t38, t39, t40, t41, t42, t43, t44, t45, t46, t47, t48, t49, t50, t51, t52, t53, t54, t55, t56, t57, t58, t59, t60, t61, t62, t63, t64, t65, t66, t67, t68, t69, t70, t71, t72, t73, t74, t75, t76, t77, t78, t79, t80, t81, t82, t83, t84, t85, .int .i64 (4 : Int), t87, t88, t89, t90, t91, t92, t93, t94, t95, t96, t97, t98, t99, t100, t101, t102, t103, t104, t105, t106, t107, t108, t109, t110, t111, t112, t113, t114, t115, t116, t117, t118, t119, t120, t121, t122, t123, t124, t125, t126, t127, t128, t129, t130, t131, t132, t133, t134, t135, t136, t137, t138, t139, t140, t141, t142, t143, t144, t145, t146, t147, t148, t149, t150, t151, t152, t153, t154, t155, t156, t157, t158, t159, t160, t161, t162, t163, t164, t165, t166, t167, t168, t169, t170, t171, t172, t173, t174, t175, t176, t177, t178, t179, t180, t181, t182, t183, t184, t185, t186, t187, t188, t189, t190, t191, t192, t193, t194, t195, t196, t197, t198, t199, t200, t201, t202, t203, t204, t205, t206, t207, t208, t209, t210, t211, t212, t213, t214, t215, t216, t217, t218, t219, t220, t221, t222, t223, t224, t225, t226, t227, t228, t229, t230, t231, t232, t233, t234, t235, t236, t237, t238, t239, t240, t241, t242, t243, t244, t245, t246, t247], []⟩ w2 := by
  have K := Lib.hid P.keep
  have HPOST := Lib.hid post
  clear post
  obtain ⟨hb, hap, hao, hbo, hbi2, y1, y2, hnd, hxb, hq, hl1, hrow, hown, GW⟩ := H
  have HB2 := Lib.hid hb
  have HAP := Lib.hid hap
  have HAO := Lib.hid hao
  have ROWW := Lib.hid hrow
  have HI0 := Lib.hid hown
  clear hb hap hao hrow hown
  conv => arg 2; whnf
  have hinv := (P.inv _ _ _ _ _ _ HB2.out.r).2.1
  have H1 := Lib.hid (P.copy w2 _ F sz ns lost HB2.out.r (K.out _ _ ht GW))
  go_wp2_with fail
  refine H1.out.mono ?_
  rintro e w3 ⟨g3, F3, rfl, hR3, hF3, g23⟩
  have H2 := Lib.hid (P.drop w3 _ F3 sz ns lost nd hR3 hnd (K.out _ _ ht (GW.trans g23)))
  have y1a := (g23.cell (p := ⟨ob, 1, none⟩) hbo).trans y1
  have HF3 := Lib.hid hF3
  clear hR3 hF3 H1
  go_wp2_with fail
  refine H2.out.mono ?_
  rintro e w4 ⟨F4, rfl, hR4, hF4, far4⟩
  have g24 : Grew w2 w4 := far4.grew g23 HF3.out
  have HF4 : Hid (∀ b, F4 b → w2.heap.size ≤ b) := fun b hb => (hF4 b hb).elim (HF3.out b) (fun h' => Nat.le_trans g23.size h')
  have HD : (ns.drop (min nd.toNat ns.length)).length ≤ sz := by rw [List.length_drop]; omega
  generalize ns.drop (min nd.toNat ns.length) = ms at *
  have H3 := Lib.hid (P.put w4 _ F4 sz ms lost _ xs hR4 (Own.grew HI0.out g24).row hxb hq (by omega) (fun _ q hq h4 => by cases hq; have := HF4.out bi h4; omega) (K.out _ _ ht (GW.trans g24)))
  clear hR4 hF4 far4 H2 HD
  go_wp2_with fail
  refine H3.out.mono ?_
  rintro e w5 ⟨F5, rfl, hR5, hF5, far5⟩
  have g25 : Grew w2 w5 := far5.grew g24 HF4.out
  have HH1 := Lib.hid (both_grew (P := P) HB2.out g25)
  clear hR5 hF5 H3 far5
  go_wp2_with fail
  exact HPOST.out _ _ _ _ _ _ _ _ _ _ _ _ _ _ _ _ _ _ _ _ _ _ _ _ _ _ _ _ _ _ _ _ _ _ _ _ _ _ _ _ _ _ _ _ _ _ _ _ lost rg g F L ns _ ⟨HH1.out, HAP.out, by omega, Own.grew HI0.out g25, GW.trans g25⟩

set_option maxRecDepth 1000000 in
set_option maxHeartbeats 8000000 in
theorem switch_5 {R : World → Value → (Nat → Prop) → Nat → List Nat → Nat → Prop} {T : World → Prop} (P : RingCalls R T) {w w2 : World} {rg g sz lost ob bi ci B : Nat} {F : Nat → Prop} {L : Value} {ns xs : List Nat} {nd : Int} {A3 : Option Addr} {c3 : Nat}
    (H : Ahead R w w2 rg g sz lost ob bi ci B F L ns xs nd A3 c3) (ht : T w) {kd : Int} (hkk : kd ≠ 1 ∧ kd ≠ 2 ∧ kd ≠ 3 ∧ kd ≠ 4) (K0 : Act → World → Prop) (t0 t1 t2 t3 t4 t5 t6 t7 t8 t9 t10 t12 t14 t17 t18 t19 t20 t21 t22 t23 t24 t25 t26 t27 t28 t29 t30 t31 t32 t33 t34 t35 t36 t37 t38 t39 t40 t41 t42 t43 t44 t45 t46 t47 t48 t49 t50 t51 t52 t53 t54 t55 t56 t57 t58 t59 t60 t61 t62 t63 t64 t65 t66 t67 t68 t69 t70 t71 t72 t73 t74 t75 t76 t77 t78 t79 t80 t81 t82 t83 t84 t85 t87 t88 t89 t90 t91 t92 t93 t94 t95 t96 t97 t98 t99 t100 t101 t102 t103 t104 t105 t106 t107 t108 t109 t110 t111 t112 t113 t114 t115 t116 t117 t118 t119 t120 t121 t122 t123 t124 t125 t126 t127 t128 t129 t130 t131 t132 t133 t134 t135 t136 t137 t138 t139 t140 t141 t142 t143 t144 t145 t146 t147 t148 t149 t150 t151 t152 t153 t154 t155 t156 t157 t158 t159 t160 t161 t162 t163 t164 t165 t166 t167 t168 t169 t170 t171 t172 t173 t174 t175 t176 t177 t178 t179 t180 t181 t182 t183 t184 t185 t186 t187 t188 t189 t190 t191 t192 t193 t194 t195 t196 t197 t198 t199 t200 t201 t202 t203 t204 t205 t206 t207 t208 t209 t210 t211 t212 t213 t214 t215 t216 t217 t218 t219 t220 t221 t222 t223 t224 t225 t226 t227 t228 t229 t230 t231 t232 t233 t234 t235 t236 t237 t238 t239 t240 t241 t242 t243 t244 t245 t246 t247 : Value)
    (post : ∀ (v17 v18 v87 v88 v89 v90 v91 v92 v93 v94 v95 v96 v97 v98 v99 v100 v101 v102 v103 v104 v105 v106 v107 v108 v109 v110 v111 v112 v113 v114 v115 v116 v117 v118 v119 v120 v121 v122 v123 v124 v125 v126 v127 v128 v129 v130 v131 v132 : Value) (lost1 rg1 g1 : Nat) (F1 : Nat → Prop) (L1 : Value) (ns1 : List Nat) (wx : World), Behind R w wx rg1 g1 sz lost lost1 bi ci B F1 L1 ns1 xs → K0 ⟨#[t0, t1, t2, t3, t4, t5, t6, t7, t8, t9, t10, .pointer (some ⟨rg1, 0, none⟩), t12, .pointer (some ⟨g1, 0, none⟩), t14, .pointer (some ⟨ob, 0, none⟩), .slice (some ⟨bi, 0, none⟩) xs.length ci, v17, v18, t19, t20, t21, t22, t23, t24, t25, t26, t27, t28, t29, t30, t31, t32, t33, t34, t35, t36, t37, t38, t39, t40, t41, t42, t43, t44, t45, t46, t47, t48, t49, t50, t51, t52, t53, t54, t55, t56, t57, t58, t59, t60, t61, t62, t63, t64, t65, t66, t67, t68, t69, t70, t71, t72, t73, t74, t75, t76, t77, t78, t79, t80, t81, t82, t83, t84, t85, .int .i64 kd, v87, v88, v89, v90, v91, v92, v93, v94, v95, v96, v97, v98, v99, v100, v101, v102, v103, v104, v105, v106, v107, v108, v109, v110, v111, v112, v113, v114, v115, v116, v117, v118, v119, v120, v121, v122, v123, v124, v125, v126, v127, v128, v129, v130, v131, v132, t133, t134, t135, t136, t137, t138, t139, t140, t141, t142, t143, t144, t145, t146, t147, t148, t149, t150, t151, t152, t153, t154, t155, t156, t157, t158, t159, t160, t161, t162, t163, t164, t165, t166, t167, t168, t169, t170, t171, t172, t173, t174, t175, t176, t177, t178, t179, t180, t181, t182, t183, t184, t185, t186, t187, t188, t189, t190, t191, t192, t193, t194, t195, t196, t197, t198, t199, t200, t201, t202, t203, t204, t205, t206, t207, t208, t209, t210, t211, t212, t213, t214, t215, t216, t217, t218, t219, t220, t221, t222, t223, t224, t225, t226, t227, t228, t229, t230, t231, t232, t233, t234, t235, t236, t237, t238, t239, t240, t241, t242, t243, t244, t245, t246, t247], []⟩ wx) :
    Code.wp Try.prog playsSwitch (Exit.then K0 fun _ _ _ => False) ⟨#[t0, t1, t2, t3, t4, t5, t6, t7, t8, t9, t10, .pointer (some ⟨rg, 0, none⟩), t12, .pointer (some ⟨g, 0, none⟩), t14, .pointer (some ⟨ob, 0, none⟩), .slice (some ⟨bi, 0, none⟩) xs.length ci, t17, t18, t19, t20, t21, t22, t23, t24, t25, t26, t27, t28, t29, t30, t31, t32, t33, t34, t35, t36, t37, t38, t39, t40, t41, t42, t43, t44, t45, t46, t47, t48, t49, t50, t51, t52, t53, t54, t55, t56, t57, t58, t59, t60, t61, t62, t63, t64, t65, t66, t67, t68, t69, t70, t71, t72, t73, t74, t75, t76, t77, t78, t79, t80, t81, t82, t83, t84, t85, .int .i64 kd, t87, t88, t89, t90, t91, t92, t93, t94, t95, t96, t97, t98, t99, t100, t101, t102, t103, t104, t105, t106, t107, t108, t109, t110, t111, t112, t113, t114, t115, t116, t117, t118, t119, t120, t121, t122, t123, t124, t125, t126, t127, t128, t129, t130, t131, t132, t133, t134, t135, t136, t137, t138, t139, t140, t141, t142, t143, t144, t145, t146, t147, t148, t149, t150, t151, t152, t153, t154, t155, t156, t157, t158, t159, t160, t161, t162, t163, t164, t165, t166, t167, t168, t169, t170, t171, t172, t173, t174, t175, t176, t177, t178, t179, t180, t181, t182, t183, t184, t185, t186, t187, t188, t189, t190, t191, t192, t193, t194, t195, t196, t197, t198, t199, t200, t201, t202, t203, t204, t205, t206, t207, t208, t209, t210, t211, t212, t213, t214, t215, t216, t217, t218, t219, t220, t221, t222, t223, t224, t225, t226, t227, t228, t229, t230, t231, t232, t233, t234, t235, t236, t237, t238, t239, t240, t241, t242, t243, t244, t245, t246, t247], []⟩ w2 := by
  have K := Lib.hid P.keep
  have HPOST := Lib.hid post
  clear post
  obtain ⟨hb, hap, hao, hbo, hbi2, y1, y2, hnd, hxb, hq, hl1, hrow, hown, GW⟩ := H
  have HB2 := Lib.hid hb
  have HAP := Lib.hid hap
  have HAO := Lib.hid hao
  have ROWW := Lib.hid hrow
  have HI0 := Lib.hid hown
  clear hb hap hao hrow hown
  conv => arg 2; whnf
  obtain ⟨n1, n2, n3, n4⟩ := hkk
  have e1 : (kd == 1) = false := beq_eq_false_iff_ne.mpr n1
  have e2 : (kd == 2) = false := beq_eq_false_iff_ne.mpr n2
  have e3 : (kd == 3) = false := beq_eq_false_iff_ne.mpr n3
  have e4 : (kd == 4) = false := beq_eq_false_iff_ne.mpr n4
  clear n1 n2 n3 n4
  go_wp2_with fail
  exact HPOST.out _ _ _ _ _ _ _ _ _ _ _ _ _ _ _ _ _ _ _ _ _ _ _ _ _ _ _ _ _ _ _ _ _ _ _ _ _ _ _ _ _ _ _ _ _ _ _ _ lost rg g F L ns _ ⟨HB2.out, HAP.out, by omega, HI0.out, GW⟩

set_option maxRecDepth 1000000 in
set_option maxHeartbeats 8000000 in
theorem plays_switch {R : World → Value → (Nat → Prop) → Nat → List Nat → Nat → Prop} {T : World → Prop} (P : RingCalls R T) {w w2 : World} {rg g sz lost ob bi ci B : Nat} {F : Nat → Prop} {L : Value} {ns xs : List Nat} {nd : Int} {A3 : Option Addr} {c3 : Nat}
    (H : Ahead R w w2 rg g sz lost ob bi ci B F L ns xs nd A3 c3) (ht : T w) {kd : Int} (K0 : Act → World → Prop) (t0 t1 t2 t3 t4 t5 t6 t7 t8 t9 t10 t12 t14 t17 t18 t19 t20 t21 t22 t23 t24 t25 t26 t27 t28 t29 t30 t31 t32 t33 t34 t35 t36 t37 t38 t39 t40 t41 t42 t43 t44 t45 t46 t47 t48 t49 t50 t51 t52 t53 t54 t55 t56 t57 t58 t59 t60 t61 t62 t63 t64 t65 t66 t67 t68 t69 t70 t71 t72 t73 t74 t75 t76 t77 t78 t79 t80 t81 t82 t83 t84 t85 t87 t88 t89 t90 t91 t92 t93 t94 t95 t96 t97 t98 t99 t100 t101 t102 t103 t104 t105 t106 t107 t108 t109 t110 t111 t112 t113 t114 t115 t116 t117 t118 t119 t120 t121 t122 t123 t124 t125 t126 t127 t128 t129 t130 t131 t132 t133 t134 t135 t136 t137 t138 t139 t140 t141 t142 t143 t144 t145 t146 t147 t148 t149 t150 t151 t152 t153 t154 t155 t156 t157 t158 t159 t160 t161 t162 t163 t164 t165 t166 t167 t168 t169 t170 t171 t172 t173 t174 t175 t176 t177 t178 t179 t180 t181 t182 t183 t184 t185 t186 t187 t188 t189 t190 t191 t192 t193 t194 t195 t196 t197 t198 t199 t200 t201 t202 t203 t204 t205 t206 t207 t208 t209 t210 t211 t212 t213 t214 t215 t216 t217 t218 t219 t220 t221 t222 t223 t224 t225 t226 t227 t228 t229 t230 t231 t232 t233 t234 t235 t236 t237 t238 t239 t240 t241 t242 t243 t244 t245 t246 t247 : Value)
    (post : ∀ (v17 v18 v87 v88 v89 v90 v91 v92 v93 v94 v95 v96 v97 v98 v99 v100 v101 v102 v103 v104 v105 v106 v107 v108 v109 v110 v111 v112 v113 v114 v115 v116 v117 v118 v119 v120 v121 v122 v123 v124 v125 v126 v127 v128 v129 v130 v131 v132 : Value) (lost1 rg1 g1 : Nat) (F1 : Nat → Prop) (L1 : Value) (ns1 : List Nat) (wx : World), Behind R w wx rg1 g1 sz lost lost1 bi ci B F1 L1 ns1 xs → K0 ⟨#[t0, t1, t2, t3, t4, t5, t6, t7, t8, t9, t10, .pointer (some ⟨rg1, 0, none⟩), t12, .pointer (some ⟨g1, 0, none⟩), t14, .pointer (some ⟨ob, 0, none⟩), .slice (some ⟨bi, 0, none⟩) xs.length ci, v17, v18, t19, t20, t21, t22, t23, t24, t25, t26, t27, t28, t29, t30, t31, t32, t33, t34, t35, t36, t37, t38, t39, t40, t41, t42, t43, t44, t45, t46, t47, t48, t49, t50, t51, t52, t53, t54, t55, t56, t57, t58, t59, t60, t61, t62, t63, t64, t65, t66, t67, t68, t69, t70, t71, t72, t73, t74, t75, t76, t77, t78, t79, t80, t81, t82, t83, t84, t85, .int .i64 kd, v87, v88, v89, v90, v91, v92, v93, v94, v95, v96, v97, v98, v99, v100, v101, v102, v103, v104, v105, v106, v107, v108, v109, v110, v111, v112, v113, v114, v115, v116, v117, v118, v119, v120, v121, v122, v123, v124, v125, v126, v127, v128, v129, v130, v131, v132, t133, t134, t135, t136, t137, t138, t139, t140, t141, t142, t143, t144, t145, t146, t147, t148, t149, t150, t151, t152, t153, t154, t155, t156, t157, t158, t159, t160, t161, t162, t163, t164, t165, t166, t167, t168, t169, t170, t171, t172, t173, t174, t175, t176, t177, t178, t179, t180, t181, t182, t183, t184, t185, t186, t187, t188, t189, t190, t191, t192, t193, t194, t195, t196, t197, t198, t199, t200, t201, t202, t203, t204, t205, t206, t207, t208, t209, t210, t211, t212, t213, t214, t215, t216, t217, t218, t219, t220, t221, t222, t223, t224, t225, t226, t227, t228, t229, t230, t231, t232, t233, t234, t235, t236, t237, t238, t239, t240, t241, t242, t243, t244, t245, t246, t247], []⟩ wx) :
    Code.wp Try.prog playsSwitch (Exit.then K0 fun _ _ _ => False) ⟨#[t0, t1, t2, t3, t4, t5, t6, t7, t8, t9, t10, .pointer (some ⟨rg, 0, none⟩), t12, .pointer (some ⟨g, 0, none⟩), t14, .pointer (some ⟨ob, 0, none⟩), .slice (some ⟨bi, 0, none⟩) xs.length ci, t17, t18, t19, t20, t21, t22, t23, t24, t25, t26, t27, t28, t29, t30, t31, t32, t33, t34, t35, t36, t37, t38, t39, t40, t41, t42, t43, t44, t45, t46, t47, t48, t49, t50, t51, t52, t53, t54, t55, t56, t57, t58, t59, t60, t61, t62, t63, t64, t65, t66, t67, t68, t69, t70, t71, t72, t73, t74, t75, t76, t77, t78, t79, t80, t81, t82, t83, t84, t85, .int .i64 kd, t87, t88, t89, t90, t91, t92, t93, t94, t95, t96, t97, t98, t99, t100, t101, t102, t103, t104, t105, t106, t107, t108, t109, t110, t111, t112, t113, t114, t115, t116, t117, t118, t119, t120, t121, t122, t123, t124, t125, t126, t127, t128, t129, t130, t131, t132, t133, t134, t135, t136, t137, t138, t139, t140, t141, t142, t143, t144, t145, t146, t147, t148, t149, t150, t151, t152, t153, t154, t155, t156, t157, t158, t159, t160, t161, t162, t163, t164, t165, t166, t167, t168, t169, t170, t171, t172, t173, t174, t175, t176, t177, t178, t179, t180, t181, t182, t183, t184, t185, t186, t187, t188, t189, t190, t191, t192, t193, t194, t195, t196, t197, t198, t199, t200, t201, t202, t203, t204, t205, t206, t207, t208, t209, t210, t211, t212, t213, t214, t215, t216, t217, t218, t219, t220, t221, t222, t223, t224, t225, t226, t227, t228, t229, t230, t231, t232, t233, t234, t235, t236, t237, t238, t239, t240, t241, t242, t243, t244, t245, t246, t247], []⟩ w2 := by
  rcases (show kd = 1 ∨ kd = 2 ∨ kd = 3 ∨ kd = 4 ∨ (kd ≠ 1 ∧ kd ≠ 2 ∧ kd ≠ 3 ∧ kd ≠ 4) by omega) with rfl | rfl | rfl | rfl | h
  · exact switch_1 P H ht K0 t0 t1 t2 t3 t4 t5 t6 t7 t8 t9 t10 t12 t14 t17 t18 t19 t20 t21 t22 t23 t24 t25 t26 t27 t28 t29 t30 t31 t32 t33 t34 t35 t36 t37 t38 t39 t40 t41 t42 t43 t44 t45 t46 t47 t48 t49 t50 t51 t52 t53 t54 t55 t56 t57 t58 t59 t60 t61 t62 t63 t64 t65 t66 t67 t68 t69 t70 t71 t72 t73 t74 t75 t76 t77 t78 t79 t80 t81 t82 t83 t84 t85 t87 t88 t89 t90 t91 t92 t93 t94 t95 t96 t97 t98 t99 t100 t101 t102 t103 t104 t105 t106 t107 t108 t109 t110 t111 t112 t113 t114 t115 t116 t117 t118 t119 t120 t121 t122 t123 t124 t125 t126 t127 t128 t129 t130 t131 t132 t133 t134 t135 t136 t137 t138 t139 t140 t141 t142 t143 t144 t145 t146 t147 t148 t149 t150 t151 t152 t153 t154 t155 t156 t157 t158 t159 t160 t161 t162 t163 t164 t165 t166 t167 t168 t169 t170 t171 t172 t173 t174 t175 t176 t177 t178 t179 t180 t181 t182 t183 t184 t185 t186 t187 t188 t189 t190 t191 t192 t193 t194 t195 t196 t197 t198 t199 t200 t201 t202 t203 t204 t205 t206 t207 t208 t209 t210 t211 t212 t213 t214 t215 t216 t217 t218 t219 t220 t221 t222 t223 t224 t225 t226 t227 t228 t229 t230 t231 t232 t233 t234 t235 t236 t237 t238 t239 t240 t241 t242 t243 t244 t245 t246 t247 post
  · exact switch_2 P H ht K0 t0 t1 t2 t3 t4 t5 t6 t7 t8 t9 t10 t12 t14 t17 t18 t19 t20 t21 t22 t23 t24 t25 t26 t27 t28 t29 t30 t31 t32 t33 t34 t35 t36 t37 t38 t39 t40 t41 t42 t43 t44 t45 t46 t47 t48 t49 t50 t51 t52 t53 t54 t55 t56 t57 t58 t59 t60 t61 t62 t63 t64 t65 t66 t67 t68 t69 t70 t71 t72 t73 t74 t75 t76 t77 t78 t79 t80 t81 t82 t83 t84 t85 t87 t88 t89 t90 t91 t92 t93 t94 t95 t96 t97 t98 t99 t100 t101 t102 t103 t104 t105 t106 t107 t108 t109 t110 t111 t112 t113 t114 t115 t116 t117 t118 t119 t120 t121 t122 t123 t124 t125 t126 t127 t128 t129 t130 t131 t132 t133 t134 t135 t136 t137 t138 t139 t140 t141 t142 t143 t144 t145 t146 t147 t148 t149 t150 t151 t152 t153 t154 t155 t156 t157 t158 t159 t160 t161 t162 t163 t164 t165 t166 t167 t168 t169 t170 t171 t172 t173 t174 t175 t176 t177 t178 t179 t180 t181 t182 t183 t184 t185 t186 t187 t188 t189 t190 t191 t192 t193 t194 t195 t196 t197 t198 t199 t200 t201 t202 t203 t204 t205 t206 t207 t208 t209 t210 t211 t212 t213 t214 t215 t216 t217 t218 t219 t220 t221 t222 t223 t224 t225 t226 t227 t228 t229 t230 t231 t232 t233 t234 t235 t236 t237 t238 t239 t240 t241 t242 t243 t244 t245 t246 t247 post
  · exact switch_3 P H ht K0 t0 t1 t2 t3 t4 t5 t6 t7 t8 t9 t10 t12 t14 t17 t18 t19 t20 t21 t22 t23 t24 t25 t26 t27 t28 t29 t30 t31 t32 t33 t34 t35 t36 t37 t38 t39 t40 t41 t42 t43 t44 t45 t46 t47 t48 t49 t50 t51 t52 t53 t54 t55 t56 t57 t58 t59 t60 t61 t62 t63 t64 t65 t66 t67 t68 t69 t70 t71 t72 t73 t74 t75 t76 t77 t78 t79 t80 t81 t82 t83 t84 t85 t87 t88 t89 t90 t91 t92 t93 t94 t95 t96 t97 t98 t99 t100 t101 t102 t103 t104 t105 t106 t107 t108 t109 t110 t111 t112 t113 t114 t115 t116 t117 t118 t119 t120 t121 t122 t123 t124 t125 t126 t127 t128 t129 t130 t131 t132 t133 t134 t135 t136 t137 t138 t139 t140 t141 t142 t143 t144 t145 t146 t147 t148 t149 t150 t151 t152 t153 t154 t155 t156 t157 t158 t159 t160 t161 t162 t163 t164 t165 t166 t167 t168 t169 t170 t171 t172 t173 t174 t175 t176 t177 t178 t179 t180 t181 t182 t183 t184 t185 t186 t187 t188 t189 t190 t191 t192 t193 t194 t195 t196 t197 t198 t199 t200 t201 t202 t203 t204 t205 t206 t207 t208 t209 t210 t211 t212 t213 t214 t215 t216 t217 t218 t219 t220 t221 t222 t223 t224 t225 t226 t227 t228 t229 t230 t231 t232 t233 t234 t235 t236 t237 t238 t239 t240 t241 t242 t243 t244 t245 t246 t247 post
  · exact switch_4 P H ht K0 t0 t1 t2 t3 t4 t5 t6 t7 t8 t9 t10 t12 t14 t17 t18 t19 t20 t21 t22 t23 t24 t25 t26 t27 t28 t29 t30 t31 t32 t33 t34 t35 t36 t37 t38 t39 t40 t41 t42 t43 t44 t45 t46 t47 t48 t49 t50 t51 t52 t53 t54 t55 t56 t57 t58 t59 t60 t61 t62 t63 t64 t65 t66 t67 t68 t69 t70 t71 t72 t73 t74 t75 t76 t77 t78 t79 t80 t81 t82 t83 t84 t85 t87 t88 t89 t90 t91 t92 t93 t94 t95 t96 t97 t98 t99 t100 t101 t102 t103 t104 t105 t106 t107 t108 t109 t110 t111 t112 t113 t114 t115 t116 t117 t118 t119 t120 t121 t122 t123 t124 t125 t126 t127 t128 t129 t130 t131 t132 t133 t134 t135 t136 t137 t138 t139 t140 t141 t142 t143 t144 t145 t146 t147 t148 t149 t150 t151 t152 t153 t154 t155 t156 t157 t158 t159 t160 t161 t162 t163 t164 t165 t166 t167 t168 t169 t170 t171 t172 t173 t174 t175 t176 t177 t178 t179 t180 t181 t182 t183 t184 t185 t186 t187 t188 t189 t190 t191 t192 t193 t194 t195 t196 t197 t198 t199 t200 t201 t202 t203 t204 t205 t206 t207 t208 t209 t210 t211 t212 t213 t214 t215 t216 t217 t218 t219 t220 t221 t222 t223 t224 t225 t226 t227 t228 t229 t230 t231 t232 t233 t234 t235 t236 t237 t238 t239 t240 t241 t242 t243 t244 t245 t246 t247 post
  · exact switch_5 P H ht h K0 t0 t1 t2 t3 t4 t5 t6 t7 t8 t9 t10 t12 t14 t17 t18 t19 t20 t21 t22 t23 t24 t25 t26 t27 t28 t29 t30 t31 t32 t33 t34 t35 t36 t37 t38 t39 t40 t41 t42 t43 t44 t45 t46 t47 t48 t49 t50 t51 t52 t53 t54 t55 t56 t57 t58 t59 t60 t61 t62 t63 t64 t65 t66 t67 t68 t69 t70 t71 t72 t73 t74 t75 t76 t77 t78 t79 t80 t81 t82 t83 t84 t85 t87 t88 t89 t90 t91 t92 t93 t94 t95 t96 t97 t98 t99 t100 t101 t102 t103 t104 t105 t106 t107 t108 t109 t110 t111 t112 t113 t114 t115 t116 t117 t118 t119 t120 t121 t122 t123 t124 t125 t126 t127 t128 t129 t130 t131 t132 t133 t134 t135 t136 t137 t138 t139 t140 t141 t142 t143 t144 t145 t146 t147 t148 t149 t150 t151 t152 t153 t154 t155 t156 t157 t158 t159 t160 t161 t162 t163 t164 t165 t166 t167 t168 t169 t170 t171 t172 t173 t174 t175 t176 t177 t178 t179 t180 t181 t182 t183 t184 t185 t186 t187 t188 t189 t190 t191 t192 t193 t194 t195 t196 t197 t198 t199 t200 t201 t202 t203 t204 t205 t206 t207 t208 t209 t210 t211 t212 t213 t214 t215 t216 t217 t218 t219 t220 t221 t222 t223 t224 t225 t226 t227 t228 t229 t230 t231 t232 t233 t234 t235 t236 t237 t238 t239 t240 t241 t242 t243 t244 t245 t246 t247 post

end Go.Proofs.Ytabbfgidgcnddaa
