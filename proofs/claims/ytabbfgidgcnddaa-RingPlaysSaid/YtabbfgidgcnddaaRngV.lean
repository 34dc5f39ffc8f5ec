/-
  One region of the law on whatever is done with a ring: what both rings tell behind a call is the same.
-/
import Derived.Test.YtabbfgidgcnddaaRngT
import Derived.Deep.RegionHeldLaw
namespace Go.Proofs.Ytabbfgidgcnddaa
open Go.RowKit
set_option linter.unusedVariables false

def regionAt (n : Nat) : Code → Option Code
  | .region k ops d => if k = n then some (.region k ops d) else none
  | .loop c => regionAt n c
  | .seq a b => match regionAt n a with
    | some c => some c
    | none => regionAt n b
  | .block _ c => regionAt n c
  | .scope c => regionAt n c
  | .cond _ a b => match regionAt n a with
    | some c => some c
    | none => regionAt n b
  | _ => none
theorem wp_then {P : Program} {c : Code} {K : Act → World → Prop} {Q : Exit → Act → World → Prop} {a : Act} {w : World} (h : c.wp P (Exit.then K fun _ _ _ => False) a w) : c.wp P (Exit.then K Q) a w :=
  wp_mono h (fun e a' w' q => by cases e <;> first | exact q | exact q.elim)
noncomputable def playsTold : Code := (Try.f3.body.bind (regionAt 41)).getD .skip

set_option maxRecDepth 1000000 in
set_option maxHeartbeats 8000000 in
theorem told_same {R : World → Value → (Nat → Prop) → Nat → List Nat → Nat → Prop} {T : World → Prop} (P : RingCalls R T) {W0 wr w4 : World} {rg g sz lost c4 c5 : Nat} {F : Nat → Prop} {ns : List Nat} {A4 A5 : Option Addr} {n : Int} {B : Nat}
    (HBX : Hid (Both R W0 wr rg F g sz (.slice A4 ns.length c4) ns lost)) (ht : T W0) (GX : Grew W0 wr) (D0 : Grew wr w4) (HV5 : Hid (Own B 5 .u8 w4 (.slice A5 ns.length c5) ns)) (hnn : -9223372036854775808 ≤ n ∧ n ≤ 9223372036854775807)
    (K0 : Act → World → Prop) (t1 t3 t4 t5 t6 t7 t8 t9 t10 t12 t14 t15 t16 t17 t18 t19 t21 t22 t23 t24 t25 t26 t27 t28 t29 t30 t31 t32 t33 t34 t35 t36 t37 t38 t39 t40 t41 t42 t43 t44 t45 t46 t47 t48 t49 t50 t51 t52 t53 t54 t55 t56 t57 t58 t59 t60 t61 t62 t63 t64 t65 t66 t67 t68 t69 t70 t71 t72 t73 t74 t75 t76 t77 t78 t79 t80 t81 t82 t83 t84 t85 t86 t87 t88 t89 t90 t91 t92 t93 t94 t95 t96 t97 t98 t99 t100 t101 t102 t103 t104 t105 t106 t107 t108 t109 t110 t111 t112 t113 t114 t115 t116 t117 t118 t119 t120 t121 t122 t123 t124 t125 t126 t127 t128 t129 t130 t131 t132 t133 t134 t135 t136 t137 t138 t139 t140 t141 t142 t143 t144 t145 t146 t147 t148 t149 t150 t151 t152 t153 t154 t155 t156 t157 t158 t159 t160 t161 t162 t163 t164 t165 t166 t167 t168 t169 t170 t171 t172 t173 t174 t175 t176 t177 t178 t179 t180 t181 t182 t183 t184 t185 t186 t187 t188 t189 t190 t191 t192 t193 t194 t195 t196 t197 t198 t199 t200 t201 t202 t203 t204 t205 t206 t207 t208 t209 t210 t211 t212 t213 t214 t215 t216 t217 t218 t219 t220 t221 t222 t223 t224 t225 t226 t227 t228 t229 t230 t231 t232 t233 t234 t235 t236 t237 t238 t239 t240 t241 t242 t243 t244 t245 t246 t247 : Value)
    (post : ∀ (v149 v150 v151 v152 v153 v154 v155 v156 v157 v158 v159 v160 v161 v162 v163 v164 v165 v166 v167 v168 v169 v170 v171 v172 v173 v174 v175 v176 v177 v178 v179 v180 v181 v182 v183 v184 v185 v186 v187 v188 v189 v190 v191 : Value) (wx : World), Grew w4 wx → K0 ⟨#[.int .i64 (sz : Nat), t1, .int .i64 n, t3, t4, t5, t6, t7, t8, t9, t10, .pointer (some ⟨rg, 0, none⟩), t12, .pointer (some ⟨g, 0, none⟩), t14, t15, t16, t17, t18, t19, .slice A5 ns.length c5, t21, t22, t23, t24, t25, t26, t27, t28, t29, t30, t31, t32, t33, t34, t35, t36, t37, t38, t39, t40, t41, t42, t43, t44, t45, t46, t47, t48, t49, t50, t51, t52, t53, t54, t55, t56, t57, t58, t59, t60, t61, t62, t63, t64, t65, t66, t67, t68, t69, t70, t71, t72, t73, t74, t75, t76, t77, t78, t79, t80, t81, t82, t83, t84, t85, t86, t87, t88, t89, t90, t91, t92, t93, t94, t95, t96, t97, t98, t99, t100, t101, t102, t103, t104, t105, t106, t107, t108, t109, t110, t111, t112, t113, t114, t115, t116, t117, t118, t119, t120, t121, t122, t123, t124, t125, t126, t127, t128, t129, t130, t131, t132, t133, t134, t135, t136, t137, t138, t139, t140, t141, t142, t143, t144, t145, t146, t147, t148, v149, v150, v151, v152, v153, v154, v155, v156, v157, v158, v159, v160, v161, v162, v163, v164, v165, v166, v167, v168, v169, v170, v171, v172, v173, v174, v175, v176, v177, v178, v179, v180, v181, v182, v183, v184, v185, v186, v187, v188, v189, v190, v191, .bool false, t193, t194, t195, t196, t197, t198, t199, t200, t201, t202, t203, t204, t205, t206, t207, t208, t209, t210, t211, t212, t213, t214, t215, t216, t217, t218, t219, t220, t221, t222, t223, t224, t225, t226, t227, t228, t229, t230, t231, t232, t233, t234, t235, t236, t237, t238, t239, t240, t241, t242, t243, t244, t245, t246, t247], []⟩ wx) :
    Code.wp Try.prog playsTold (Exit.then K0 fun _ _ _ => False) ⟨#[.int .i64 (sz : Nat), t1, .int .i64 n, t3, t4, t5, t6, t7, t8, t9, t10, .pointer (some ⟨rg, 0, none⟩), t12, .pointer (some ⟨g, 0, none⟩), t14, t15, t16, t17, t18, t19, .slice A5 ns.length c5, t21, t22, t23, t24, t25, t26, t27, t28, t29, t30, t31, t32, t33, t34, t35, t36, t37, t38, t39, t40, t41, t42, t43, t44, t45, t46, t47, t48, t49, t50, t51, t52, t53, t54, t55, t56, t57, t58, t59, t60, t61, t62, t63, t64, t65, t66, t67, t68, t69, t70, t71, t72, t73, t74, t75, t76, t77, t78, t79, t80, t81, t82, t83, t84, t85, t86, t87, t88, t89, t90, t91, t92, t93, t94, t95, t96, t97, t98, t99, t100, t101, t102, t103, t104, t105, t106, t107, t108, t109, t110, t111, t112, t113, t114, t115, t116, t117, t118, t119, t120, t121, t122, t123, t124, t125, t126, t127, t128, t129, t130, t131, t132, t133, t134, t135, t136, t137, t138, t139, t140, t141, t142, t143, t144, t145, t146, t147, t148, t149, t150, t151, t152, t153, t154, t155, t156, t157, t158, t159, t160, t161, t162, t163, t164, t165, t166, t167, t168, t169, t170, t171, t172, t173, t174, t175, t176, t177, t178, t179, t180, t181, t182, t183, t184, t185, t186, t187, t188, t189, t190, t191, t192, t193, t194, t195, t196, t197, t198, t199, t200, t201, t202, t203, t204, t205, t206, t207, t208, t209, t210, t211, t212, t213, t214, t215, t216, t217, t218, t219, t220, t221, t222, t223, t224, t225, t226, t227, t228, t229, t230, t231, t232, t233, t234, t235, t236, t237, t238, t239, t240, t241, t242, t243, t244, t245, t246, t247], []⟩ w4 := by
  have K := Lib.hid P.keep
  have hlen := (P.inv _ _ _ _ _ _ HBX.out.r).2.1
  have hsz := (P.inv _ _ _ _ _ _ HBX.out.r).1
  have N1 := fun w' (k : Grew wr w') => Lib.hid (P.len w' _ _ _ _ _ (P.grew HBX.out.r k) (K.out _ _ ht (GX.trans k)))
  have N3 := fun w' (k : Grew wr w') => Lib.hid (P.peek w' _ _ _ _ _ n (P.grew HBX.out.r k) hnn (K.out _ _ ht (GX.trans k)))
  have N4 := fun w' (k : Grew wr w') => Lib.hid (ref06_Peek g sz _ ns lost n w' (HBX.out.ref.grew k) (by omega) hnn)
  have N5 := fun w' (k : Grew wr w') => Lib.hid (P.size w' _ _ _ _ _ (P.grew HBX.out.r k) (K.out _ _ ht (GX.trans k)))
  have N6 := fun w' (k : Grew wr w') => Lib.hid (P.lost w' _ _ _ _ _ (P.grew HBX.out.r k) (K.out _ _ ht (GX.trans k)))
  have KS : ∀ w', Grew w4 w' → Hid (w'.cell? ⟨g, 1, none⟩ = some (.slice A4 ns.length c4) ∧ w'.cell? ⟨g, 2, none⟩ = some (.int .i64 lost) ∧ (convert 23 9 (.slice A4 ns.length c4)).run Try.prog w' = .ok (.string (strOf ns)) w' ∧ (convert 23 9 (.slice A5 ns.length c5)).run Try.prog w' = .ok (.string (strOf ns)) w') := fun w' k => by
    have hr := HBX.out.ref.grew (D0.trans k)
    exact ⟨hr.c1, hr.c2, Row.string w' hr.row 23 5 Try.underlying23 Try.underlying5 9 Try.underlying9, Row.string w' (HV5.out.row.grew k) 23 5 Try.underlying23 Try.underlying5 9 Try.underlying9⟩
  have D := (Grew.refl w4).drew
  have HX6 : Hid (Row .u8 w4.drew (.slice A5 ns.length c5) ns) := HV5.out.row.grew D
  have HX7 := HX6
  have HPOST := Lib.hid post
  clear post hlen hsz HBX GX K P hnn HV5
  conv => arg 2; whnf
  go_region_held_law (fun w' => w'.cell? ⟨g, 1, none⟩ = some (.slice A4 ns.length c4) ∧ w'.cell? ⟨g, 2, none⟩ = some (.int .i64 lost) ∧ (convert 23 9 (.slice A4 ns.length c4)).run Try.prog w' = .ok (.string (strOf ns)) w' ∧ (convert 23 9 (.slice A5 ns.length c5)).run Try.prog w' = .ok (.string (strOf ns)) w') (exact (KS _ D).out) (first
    | (go_at_call 13; refine (N3 _ (D0.trans D)).out.mono ?_; rintro e w' ⟨v6, rfl, hv6, hg⟩; replace D := D.trans hg; have q3 := Row.string w' (HX7.out.grew hg) 23 5 Try.underlying23 Try.underlying5 9 Try.underlying9; have HX7 := Lib.hid (HX7.out.grew hg); have q2 := Row.string w' hv6.row 23 5 Try.underlying23 Try.underlying5 9 Try.underlying9; have HX6 := Lib.hid hv6.row; clear hg hv6)
    | (go_at_call 15; refine (N4 _ (D0.trans D)).out.mono ?_; rintro e w' ⟨v7, rfl, hv7, hg⟩; replace D := D.trans hg; have q2 := Row.string w' (HX6.out.grew hg) 23 5 Try.underlying23 Try.underlying5 9 Try.underlying9; have HX6 := Lib.hid (HX6.out.grew hg); have q3 := Row.string w' hv7.row 23 5 Try.underlying23 Try.underlying5 9 Try.underlying9; have HX7 := Lib.hid hv7.row; clear hg hv7)
    | (go_at_call 14; refine (N1 _ (D0.trans D)).out.mono ?_; rintro e w' ⟨rfl, hg⟩; replace D := D.trans hg; clear hg)
    | (go_at_call 16; refine (N5 _ (D0.trans D)).out.mono ?_; rintro e w' ⟨rfl, hg⟩; replace D := D.trans hg; clear hg)
    | (go_at_call 17; refine (N6 _ (D0.trans D)).out.mono ?_; rintro e w' ⟨rfl, hg⟩; replace D := D.trans hg; clear hg))
  all_goals
    exact HPOST.out _ _ _ _ _ _ _ _ _ _ _ _ _ _ _ _ _ _ _ _ _ _ _ _ _ _ _ _ _ _ _ _ _ _ _ _ _ _ _ _ _ _ _ _ D
end Go.Proofs.Ytabbfgidgcnddaa
