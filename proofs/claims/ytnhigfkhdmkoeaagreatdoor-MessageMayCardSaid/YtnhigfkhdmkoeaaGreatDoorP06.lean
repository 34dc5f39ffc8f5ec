/-
  Messages: the program's region that calls Decode of UBX and keeps what it tells in a variable, whatever comes up first.
  A text's bytes as numbers.
-/
import Derived.Test.YtnhigfkhdmkoeaaGreatDoorP05
import Derived.KernelRfl
import Derived.Test.YtnhigfkhdmkoeaaGreatDoorP02

namespace Go.Proofs.YtnhigfkhdmkoeaaGreatDoor
open Go.RowKit
set_option linter.unusedVariables false

noncomputable def mubOps : Array Oper := (Tryz.f9.body.map (regOps 8)).getD #[]
noncomputable def mubCode : Code := (Tryz.f9.body.bind (regCode 8)).getD .skip
def mubSh (ab b o o2 n cap a0 b0 er : Nat) : List (Value ⊕ Nat) := [.inl (.pointer (some ⟨ab, 1, none⟩)), .inl (.slice (some ⟨b, o, none⟩) n cap), .inl (.pointer (some ⟨b, o, none⟩)), .inl (.int .u8 (a0 : Nat)), .inl (.pointer (some ⟨ab, 1, none⟩)), .inl (.slice (some ⟨b, o, none⟩) n cap), .inl (.pointer (some ⟨b, o + 1, none⟩)), .inl (.int .u8 (b0 : Nat)), .inl (.pointer (some ⟨ab, 1, none⟩)), .inl (.slice (some ⟨b, o, none⟩) n cap), .inl (.slice (some ⟨b, o2, none⟩) (n - 2) (cap - 2)), .inr 0, .inr 0, .inr 1, .inl (.int .i64 (er : Nat)), .inr 2, .inr 4, .inl (.int .i64 (er : Nat))]
set_option maxRecDepth 1000000 in
set_option maxHeartbeats 8000000 in
theorem mub_call (ab b o o2 n cap a0 b0 er : Nat) (a1 b1 : Int) (zs : List Int) (W : World) (hc : o2 = if cap = 2 then o else o + 2) (hn : 2 ≤ n) (hcap : n ≤ cap) (hM : Hid (∀ w', Grew W w' → w'.cell? ⟨ab, 1, none⟩ = some (.slice (some ⟨b, o, none⟩) n cap) ∧ w'.cell? ⟨b, o, none⟩ = some (.int .u8 (a0 : Nat)) ∧ w'.cell? ⟨b, o + 1, none⟩ = some (.int .u8 (b0 : Nat))))
    (hD : Hid (∀ w', Grew W w' → Calls Tryz.prog 19 #[.int .u8 (a0 : Nat), .int .u8 (b0 : Nat), .slice (some ⟨b, o2, none⟩) (n - 2) (cap - 2)] w' fun e w'' => ∃ zv, e = .returned (.tuple #[.agg #[.int .u8 a1, .int .u8 b1, zv], .int .i64 (er : Nat)]) ∧ RowN W w'' zv zs ∧ Grew w' w'')) (K0 : Act → World → Prop) (t0 t2 t3 t4 t5 t6 t7 t8 t9 t10 t11 t12 t13 t14 t15 t16 t17 t18 t19 t20 t21 t22 t23 t24 t25 t26 t27 t28 t29 t30 t31 t32 t33 t34 t35 t36 t37 t38 t39 t40 t41 t42 t43 t44 t45 t46 t47 t48 t49 t50 t51 t52 t53 t54 t55 t56 t57 t58 t59 t60 t61 t62 t63 t64 t65 t66 t67 t68 t69 t70 t71 t72 t73 t74 t75 t76 t77 t78 t79 t80 t81 t82 t83 t84 t85 : Value)
    (post : ∀ (p : Nat) (zv : Value) (w' : World) (s39 s40 s41 s42 s43 s44 s45 s46 s47 s48 s49 s50 s51 s52 s53 : Value), W.heap.size ≤ p → ThreeAt w' p (.int .u8 a1) (.int .u8 b1) zv → RowN W w' zv zs → Grew W w' → K0 ⟨#[t0, .pointer (some ⟨ab, 0, none⟩), t2, t3, t4, t5, t6, .pointer (some ⟨p, 0, none⟩), .int .i64 (er : Nat), t9, t10, t11, t12, t13, t14, t15, t16, t17, t18, t19, t20, t21, t22, t23, t24, t25, t26, t27, t28, t29, t30, t31, t32, t33, t34, t35, t36, t37, t38, s39, s40, s41, s42, s43, s44, s45, s46, s47, s48, s49, s50, s51, s52, s53, t54, t55, t56, t57, t58, t59, t60, t61, t62, t63, t64, t65, t66, t67, t68, t69, t70, t71, t72, t73, t74, t75, t76, t77, t78, t79, t80, t81, t82, t83, t84, t85], []⟩ w') :
    Code.wp Tryz.prog mubCode (Exit.then K0 fun _ _ _ => False) ⟨#[t0, .pointer (some ⟨ab, 0, none⟩), t2, t3, t4, t5, t6, t7, t8, t9, t10, t11, t12, t13, t14, t15, t16, t17, t18, t19, t20, t21, t22, t23, t24, t25, t26, t27, t28, t29, t30, t31, t32, t33, t34, t35, t36, t37, t38, t39, t40, t41, t42, t43, t44, t45, t46, t47, t48, t49, t50, t51, t52, t53, t54, t55, t56, t57, t58, t59, t60, t61, t62, t63, t64, t65, t66, t67, t68, t69, t70, t71, t72, t73, t74, t75, t76, t77, t78, t79, t80, t81, t82, t83, t84, t85], []⟩ W := by
  conv => arg 2; whnf
  refine wp_region_fill (n := 86) (ops := mubOps) (by kernel_rfl) (fun L i w' v => UCallN a1 b1 er zs W 16 ((mubSh ab b o o2 n cap a0 b0 er).getD i (.inr 4)) L w' v) ?_ ?_ ?_ ?_ ?_
  case refine_1 => kernel_rfl
  case refine_2 => kernel_rfl
  case refine_3 => rfl
  case refine_5 =>
    intro L c w' hL hdef hsz ho hd g
    obtain ⟨tm, df⟩ := c
    simp only at hdef hsz ho hd
    subst hdef
    obtain ⟨p, e4, hWp, _, h4⟩ := hd 15 7 (by kernel_rfl)
    rw [if_pos (hL 16 (of_decide_eq_true (by kernel_rfl)))] at h4
    obtain ⟨zv, hvar, hrow⟩ := h4
    have e5 : tm[8]?.getD undef = .int .i64 (er : Nat) := hd 17 8 (by kernel_rfl)
    have f0 : tm[0]?.getD undef = t0 := ho 0 (by kernel_rfl)
    have f1 : tm[1]?.getD undef = .pointer (some ⟨ab, 0, none⟩) := ho 1 (by kernel_rfl)
    have f2 : tm[2]?.getD undef = t2 := ho 2 (by kernel_rfl)
    have f3 : tm[3]?.getD undef = t3 := ho 3 (by kernel_rfl)
    have f4 : tm[4]?.getD undef = t4 := ho 4 (by kernel_rfl)
    have f5 : tm[5]?.getD undef = t5 := ho 5 (by kernel_rfl)
    have f6 : tm[6]?.getD undef = t6 := ho 6 (by kernel_rfl)
    have f9 : tm[9]?.getD undef = t9 := ho 9 (by kernel_rfl)
    have f10 : tm[10]?.getD undef = t10 := ho 10 (by kernel_rfl)
    have f11 : tm[11]?.getD undef = t11 := ho 11 (by kernel_rfl)
    have f12 : tm[12]?.getD undef = t12 := ho 12 (by kernel_rfl)
    have f13 : tm[13]?.getD undef = t13 := ho 13 (by kernel_rfl)
    have f14 : tm[14]?.getD undef = t14 := ho 14 (by kernel_rfl)
    have f15 : tm[15]?.getD undef = t15 := ho 15 (by kernel_rfl)
    have f16 : tm[16]?.getD undef = t16 := ho 16 (by kernel_rfl)
    have f17 : tm[17]?.getD undef = t17 := ho 17 (by kernel_rfl)
    have f18 : tm[18]?.getD undef = t18 := ho 18 (by kernel_rfl)
    have f19 : tm[19]?.getD undef = t19 := ho 19 (by kernel_rfl)
    have f20 : tm[20]?.getD undef = t20 := ho 20 (by kernel_rfl)
    have f21 : tm[21]?.getD undef = t21 := ho 21 (by kernel_rfl)
    have f22 : tm[22]?.getD undef = t22 := ho 22 (by kernel_rfl)
    have f23 : tm[23]?.getD undef = t23 := ho 23 (by kernel_rfl)
    have f24 : tm[24]?.getD undef = t24 := ho 24 (by kernel_rfl)
    have f25 : tm[25]?.getD undef = t25 := ho 25 (by kernel_rfl)
    have f26 : tm[26]?.getD undef = t26 := ho 26 (by kernel_rfl)
    have f27 : tm[27]?.getD undef = t27 := ho 27 (by kernel_rfl)
    have f28 : tm[28]?.getD undef = t28 := ho 28 (by kernel_rfl)
    have f29 : tm[29]?.getD undef = t29 := ho 29 (by kernel_rfl)
    have f30 : tm[30]?.getD undef = t30 := ho 30 (by kernel_rfl)
    have f31 : tm[31]?.getD undef = t31 := ho 31 (by kernel_rfl)
    have f32 : tm[32]?.getD undef = t32 := ho 32 (by kernel_rfl)
    have f33 : tm[33]?.getD undef = t33 := ho 33 (by kernel_rfl)
    have f34 : tm[34]?.getD undef = t34 := ho 34 (by kernel_rfl)
    have f35 : tm[35]?.getD undef = t35 := ho 35 (by kernel_rfl)
    have f36 : tm[36]?.getD undef = t36 := ho 36 (by kernel_rfl)
    have f37 : tm[37]?.getD undef = t37 := ho 37 (by kernel_rfl)
    have f38 : tm[38]?.getD undef = t38 := ho 38 (by kernel_rfl)
    have f54 : tm[54]?.getD undef = t54 := ho 54 (by kernel_rfl)
    have f55 : tm[55]?.getD undef = t55 := ho 55 (by kernel_rfl)
    have f56 : tm[56]?.getD undef = t56 := ho 56 (by kernel_rfl)
    have f57 : tm[57]?.getD undef = t57 := ho 57 (by kernel_rfl)
    have f58 : tm[58]?.getD undef = t58 := ho 58 (by kernel_rfl)
    have f59 : tm[59]?.getD undef = t59 := ho 59 (by kernel_rfl)
    have f60 : tm[60]?.getD undef = t60 := ho 60 (by kernel_rfl)
    have f61 : tm[61]?.getD undef = t61 := ho 61 (by kernel_rfl)
    have f62 : tm[62]?.getD undef = t62 := ho 62 (by kernel_rfl)
    have f63 : tm[63]?.getD undef = t63 := ho 63 (by kernel_rfl)
    have f64 : tm[64]?.getD undef = t64 := ho 64 (by kernel_rfl)
    have f65 : tm[65]?.getD undef = t65 := ho 65 (by kernel_rfl)
    have f66 : tm[66]?.getD undef = t66 := ho 66 (by kernel_rfl)
    have f67 : tm[67]?.getD undef = t67 := ho 67 (by kernel_rfl)
    have f68 : tm[68]?.getD undef = t68 := ho 68 (by kernel_rfl)
    have f69 : tm[69]?.getD undef = t69 := ho 69 (by kernel_rfl)
    have f70 : tm[70]?.getD undef = t70 := ho 70 (by kernel_rfl)
    have f71 : tm[71]?.getD undef = t71 := ho 71 (by kernel_rfl)
    have f72 : tm[72]?.getD undef = t72 := ho 72 (by kernel_rfl)
    have f73 : tm[73]?.getD undef = t73 := ho 73 (by kernel_rfl)
    have f74 : tm[74]?.getD undef = t74 := ho 74 (by kernel_rfl)
    have f75 : tm[75]?.getD undef = t75 := ho 75 (by kernel_rfl)
    have f76 : tm[76]?.getD undef = t76 := ho 76 (by kernel_rfl)
    have f77 : tm[77]?.getD undef = t77 := ho 77 (by kernel_rfl)
    have f78 : tm[78]?.getD undef = t78 := ho 78 (by kernel_rfl)
    have f79 : tm[79]?.getD undef = t79 := ho 79 (by kernel_rfl)
    have f80 : tm[80]?.getD undef = t80 := ho 80 (by kernel_rfl)
    have f81 : tm[81]?.getD undef = t81 := ho 81 (by kernel_rfl)
    have f82 : tm[82]?.getD undef = t82 := ho 82 (by kernel_rfl)
    have f83 : tm[83]?.getD undef = t83 := ho 83 (by kernel_rfl)
    have f84 : tm[84]?.getD undef = t84 := ho 84 (by kernel_rfl)
    have f85 : tm[85]?.getD undef = t85 := ho 85 (by kernel_rfl)
    have e : tm = #[tm[0]?.getD undef, tm[1]?.getD undef, tm[2]?.getD undef, tm[3]?.getD undef, tm[4]?.getD undef, tm[5]?.getD undef, tm[6]?.getD undef, tm[7]?.getD undef, tm[8]?.getD undef, tm[9]?.getD undef, tm[10]?.getD undef, tm[11]?.getD undef, tm[12]?.getD undef, tm[13]?.getD undef, tm[14]?.getD undef, tm[15]?.getD undef, tm[16]?.getD undef, tm[17]?.getD undef, tm[18]?.getD undef, tm[19]?.getD undef, tm[20]?.getD undef, tm[21]?.getD undef, tm[22]?.getD undef, tm[23]?.getD undef, tm[24]?.getD undef, tm[25]?.getD undef, tm[26]?.getD undef, tm[27]?.getD undef, tm[28]?.getD undef, tm[29]?.getD undef, tm[30]?.getD undef, tm[31]?.getD undef, tm[32]?.getD undef, tm[33]?.getD undef, tm[34]?.getD undef, tm[35]?.getD undef, tm[36]?.getD undef, tm[37]?.getD undef, tm[38]?.getD undef, tm[39]?.getD undef, tm[40]?.getD undef, tm[41]?.getD undef, tm[42]?.getD undef, tm[43]?.getD undef, tm[44]?.getD undef, tm[45]?.getD undef, tm[46]?.getD undef, tm[47]?.getD undef, tm[48]?.getD undef, tm[49]?.getD undef, tm[50]?.getD undef, tm[51]?.getD undef, tm[52]?.getD undef, tm[53]?.getD undef, tm[54]?.getD undef, tm[55]?.getD undef, tm[56]?.getD undef, tm[57]?.getD undef, tm[58]?.getD undef, tm[59]?.getD undef, tm[60]?.getD undef, tm[61]?.getD undef, tm[62]?.getD undef, tm[63]?.getD undef, tm[64]?.getD undef, tm[65]?.getD undef, tm[66]?.getD undef, tm[67]?.getD undef, tm[68]?.getD undef, tm[69]?.getD undef, tm[70]?.getD undef, tm[71]?.getD undef, tm[72]?.getD undef, tm[73]?.getD undef, tm[74]?.getD undef, tm[75]?.getD undef, tm[76]?.getD undef, tm[77]?.getD undef, tm[78]?.getD undef, tm[79]?.getD undef, tm[80]?.getD undef, tm[81]?.getD undef, tm[82]?.getD undef, tm[83]?.getD undef, tm[84]?.getD undef, tm[85]?.getD undef] := (arr_getS tm undef hsz).trans (by kernel_rfl)
    rw [e4, e5, f0, f1, f2, f3, f4, f5, f6, f9, f10, f11, f12, f13, f14, f15, f16, f17, f18, f19, f20, f21, f22, f23, f24, f25, f26, f27, f28, f29, f30, f31, f32, f33, f34, f35, f36, f37, f38, f54, f55, f56, f57, f58, f59, f60, f61, f62, f63, f64, f65, f66, f67, f68, f69, f70, f71, f72, f73, f74, f75, f76, f77, f78, f79, f80, f81, f82, f83, f84, f85] at e
    rw [e]
    exact post p zv w' (tm[39]?.getD undef) (tm[40]?.getD undef) (tm[41]?.getD undef) (tm[42]?.getD undef) (tm[43]?.getD undef) (tm[44]?.getD undef) (tm[45]?.getD undef) (tm[46]?.getD undef) (tm[47]?.getD undef) (tm[48]?.getD undef) (tm[49]?.getD undef) (tm[50]?.getD undef) (tm[51]?.getD undef) (tm[52]?.getD undef) (tm[53]?.getD undef) hWp hvar hrow g
  simp only [AllFrom]
  refine ⟨?_, ?_, ?_, ?_, ?_, ?_, ?_, ?_, ?_, ?_, ?_, ?_, ?_, ?_, ?_, ?_, ?_, ?_, trivial⟩
  · intro L c w' hL ho hw hc' hd g
    have e0 : c.tmps[1]?.getD undef = .pointer (some ⟨ab, 0, none⟩) := ho 1 (by kernel_rfl)
    refine un_of hd g (by decide) (each_value (v := .pointer (some ⟨ab, 1, none⟩)) ?_ rfl)
    simp [execOp, go_sem, e0]
  · intro L c w' hL ho hw hc' hd g
    have e0 : c.tmps[40]?.getD undef = .pointer (some ⟨ab, 1, none⟩) := hd 0 40 (hw 0 (by kernel_rfl)) (by kernel_rfl)
    have hx := (hM.out _ g).1
    refine un_of hd g (by decide) (each_value (v := .slice (some ⟨b, o, none⟩) n cap) ?_ rfl)
    simp [execOp, go_sem, e0, hx]
  · intro L c w' hL ho hw hc' hd g
    have e0 : c.tmps[41]?.getD undef = .slice (some ⟨b, o, none⟩) n cap := hd 1 41 (hw 1 (by kernel_rfl)) (by kernel_rfl)
    have hb : 0 < n := by omega
    have hbi : (0 : Int) < n := by omega
    refine un_of hd g (by decide) (each_value (v := .pointer (some ⟨b, o, none⟩)) ?_ rfl)
    simp [execOp, go_sem, e0, hb]
  · intro L c w' hL ho hw hc' hd g
    have e0 : c.tmps[42]?.getD undef = .pointer (some ⟨b, o, none⟩) := hd 2 42 (hw 2 (by kernel_rfl)) (by kernel_rfl)
    have hx := (hM.out _ g).2.1
    refine un_of hd g (by decide) (each_value (v := .int .u8 (a0 : Nat)) ?_ rfl)
    simp [execOp, go_sem, e0, hx]
  · intro L c w' hL ho hw hc' hd g
    have e0 : c.tmps[1]?.getD undef = .pointer (some ⟨ab, 0, none⟩) := ho 1 (by kernel_rfl)
    refine un_of hd g (by decide) (each_value (v := .pointer (some ⟨ab, 1, none⟩)) ?_ rfl)
    simp [execOp, go_sem, e0]
  · intro L c w' hL ho hw hc' hd g
    have e0 : c.tmps[44]?.getD undef = .pointer (some ⟨ab, 1, none⟩) := hd 4 44 (hw 4 (by kernel_rfl)) (by kernel_rfl)
    have hx := (hM.out _ g).1
    refine un_of hd g (by decide) (each_value (v := .slice (some ⟨b, o, none⟩) n cap) ?_ rfl)
    simp [execOp, go_sem, e0, hx]
  · intro L c w' hL ho hw hc' hd g
    have e0 : c.tmps[45]?.getD undef = .slice (some ⟨b, o, none⟩) n cap := hd 5 45 (hw 5 (by kernel_rfl)) (by kernel_rfl)
    have hb : 1 < n := by omega
    have hbi : (1 : Int) < n := by omega
    refine un_of hd g (by decide) (each_value (v := .pointer (some ⟨b, o + 1, none⟩)) ?_ rfl)
    simp [execOp, go_sem, e0, hbi]
  · intro L c w' hL ho hw hc' hd g
    have e0 : c.tmps[46]?.getD undef = .pointer (some ⟨b, o + 1, none⟩) := hd 6 46 (hw 6 (by kernel_rfl)) (by kernel_rfl)
    have hx := (hM.out _ g).2.2
    refine un_of hd g (by decide) (each_value (v := .int .u8 (b0 : Nat)) ?_ rfl)
    simp [execOp, go_sem, e0, hx]
  · intro L c w' hL ho hw hc' hd g
    have e0 : c.tmps[1]?.getD undef = .pointer (some ⟨ab, 0, none⟩) := ho 1 (by kernel_rfl)
    refine un_of hd g (by decide) (each_value (v := .pointer (some ⟨ab, 1, none⟩)) ?_ rfl)
    simp [execOp, go_sem, e0]
  · intro L c w' hL ho hw hc' hd g
    have e0 : c.tmps[48]?.getD undef = .pointer (some ⟨ab, 1, none⟩) := hd 8 48 (hw 8 (by kernel_rfl)) (by kernel_rfl)
    have hx := (hM.out _ g).1
    refine un_of hd g (by decide) (each_value (v := .slice (some ⟨b, o, none⟩) n cap) ?_ rfl)
    simp [execOp, go_sem, e0, hx]
  · intro L c w' hL ho hw hc' hd g
    have e0 : c.tmps[49]?.getD undef = .slice (some ⟨b, o, none⟩) n cap := hd 9 49 (hw 9 (by kernel_rfl)) (by kernel_rfl)
    refine un_of hd g (by decide) (each_value (v := .slice (some ⟨b, o2, none⟩) (n - 2) (cap - 2)) ?_ rfl)
    have h2 : 2 ≤ cap := by omega
    have h3 : ¬ (n : Int) < 2 := by omega
    by_cases q : cap = 2
    · rw [if_pos q] at hc
      subst q
      simp [execOp, go_sem, e0, hc, h3]
    · rw [if_neg q] at hc
      simp [execOp, go_sem, e0, hc, h3, q]
  · intro L c w' hL ho hw hc' hd g
    have e1 : c.tmps[43]?.getD undef = .int .u8 (a0 : Nat) := hd 3 43 (hw 3 (by kernel_rfl)) (by kernel_rfl)
    have e2 : c.tmps[47]?.getD undef = .int .u8 (b0 : Nat) := hd 7 47 (hw 7 (by kernel_rfl)) (by kernel_rfl)
    have e3 : c.tmps[50]?.getD undef = .slice (some ⟨b, o2, none⟩) (n - 2) (cap - 2) := hd 10 50 (hw 10 (by kernel_rfl)) (by kernel_rfl)
    exact un_of hd g (by decide) (each_call (f := 19) (args := #[.int .u8 (a0 : Nat), .int .u8 (b0 : Nat), .slice (some ⟨b, o2, none⟩) (n - 2) (cap - 2)]) (by simp [go_sem, e1, e2, e3]) ((hD.out _ g).mono (by rintro e w'' ⟨zv, rfl, hk, g'⟩; exact ⟨_, rfl, ⟨zv, rfl, hk⟩, g'⟩)))
  · intro L c w' hL ho hw hc' hd g
    obtain ⟨zv, e1, hl⟩ : ∃ zv, c.tmps[51]?.getD undef = .tuple #[.agg #[.int .u8 a1, .int .u8 b1, zv], .int .i64 (er : Nat)] ∧ RowN W w' zv zs := hd 11 51 (hw 11 (by kernel_rfl)) (by kernel_rfl)
    refine un_of hd g (by decide) (each_value (v := .tuple #[.agg #[.int .u8 a1, .int .u8 b1, zv], .int .i64 (er : Nat)]) ?_ ⟨zv, rfl, hl⟩)
    simp [execOp, go_sem, e1]
  · intro L c w' hL ho hw hc' hd g
    obtain ⟨zv, e1, hl⟩ : ∃ zv, c.tmps[39]?.getD undef = .tuple #[.agg #[.int .u8 a1, .int .u8 b1, zv], .int .i64 (er : Nat)] ∧ RowN W w' zv zs := hd 12 39 (hw 12 (by kernel_rfl)) (by kernel_rfl)
    refine un_of hd g (by decide) (each_value (v := .agg #[.int .u8 a1, .int .u8 b1, zv]) ?_ ⟨zv, rfl, hl⟩)
    simp [execOp, go_sem, e1]
  · intro L c w' hL ho hw hc' hd g
    obtain ⟨zv, e1, hl⟩ : ∃ zv, c.tmps[39]?.getD undef = .tuple #[.agg #[.int .u8 a1, .int .u8 b1, zv], .int .i64 (er : Nat)] ∧ RowN W w' zv zs := hd 12 39 (hw 12 (by kernel_rfl)) (by kernel_rfl)
    refine un_of hd g (by decide) (each_value (v := .int .i64 (er : Nat)) ?_ rfl)
    simp [execOp, go_sem, e1]
  · intro L c w' hL ho hw hc' hd g
    have hn : L 16 = false := by
      cases q : L 16 with
      | false => rfl
      | true => have := hc' 16 15 q (by kernel_rfl); rw [hL] at this; cases this
    refine un_of hd g (by decide) (each_made (v := .pointer (some ⟨w'.heap.size, 0, none⟩)) (w1 := w'.alloc (.cells #[.int .u8 0, .int .u8 0, .slice none 0 0] 36)) ?_ ((Grew.refl _).alloc _) ⟨_, rfl, g.size, by simp, ?_⟩)
    · simp [execOp, go_sem]
    · rw [also_ne (by decide), hn, if_neg (by decide)]
      exact heap_alloc_new _ _
  · intro L c w' hL ho hw hc' hd g
    exact un_store (ops := mubOps) (sh := (mubSh ab b o o2 n cap a0 b0 er)) (u := 7) (t := 52) rfl rfl hd g (hd 15 7 (hw 15 (by kernel_rfl)) (by kernel_rfl)) (hd 13 52 (hw 13 (by kernel_rfl)) (by kernel_rfl)) hL (by kernel_rfl)
  · intro L c w' hL ho hw hc' hd g
    have e0 : c.tmps[53]?.getD undef = .int .i64 (er : Nat) := hd 14 53 (hw 14 (by kernel_rfl)) (by kernel_rfl)
    refine un_of hd g (by decide) (each_value (v := .int .i64 (er : Nat)) ?_ rfl)
    simp [execOp, go_sem, e0]
end Go.Proofs.YtnhigfkhdmkoeaaGreatDoor

namespace Go.Proofs.YtnhigfkhdmkoeaaGreatDoor
open Go.RowKit
set_option linter.unusedVariables false

/-- A text's bytes as numbers. -/
def nat (s : ByteArray) : List Nat := s.data.toList.map UInt8.toNat
theorem nat_length (s : ByteArray) : (nat s).length = s.size := by unfold nat; rw [List.length_map, Array.length_toList]; rfl
theorem nat_lt (s : ByteArray) (i : Nat) : wd (nat s) i < 256 := by
  unfold wd nat
  rw [List.getD_eq_getElem?_getD, List.getElem?_map]
  cases s.data.toList[i]? with
  | none => simp
  | some x => simpa using x.toNat_lt
theorem nat_wd (s : ByteArray) (i : Nat) (h : i < s.size) : (s[i]'h).toNat = wd (nat s) i := by
  have h2 : i < s.data.size := h
  unfold wd nat
  rw [List.getD_eq_getElem?_getD, List.getElem?_map, Array.getElem?_toList, Array.getElem?_eq_getElem h2]
  rfl
theorem nat_ext {s t : ByteArray} (h : nat s = nat t) : s = t := by
  unfold nat at h
  have h2 : s.data.toList = t.data.toList := (List.map_inj_right (fun a b hab => UInt8.toNat_inj.1 hab)).1 h
  obtain ⟨a⟩ := s
  obtain ⟨b⟩ := t
  have : a = b := Array.toList_inj.1 h2
  rw [this]
theorem nat_extract (s : ByteArray) (a b : Nat) : nat (s.extract a b) = ((nat s).take b).drop a := by
  unfold nat
  rw [ByteArray.data_extract, Array.toList_extract, List.extract_eq_take_drop, List.map_take, List.map_drop, List.drop_take]
theorem nat_append (s t : ByteArray) : nat (s ++ t) = nat s ++ nat t := by
  unfold nat
  rw [ByteArray.data_append, Array.toList_append, List.map_append]
theorem nat_mk (l : List UInt8) : nat ⟨l.toArray⟩ = l.map UInt8.toNat := rfl
theorem nat_nil : nat ⟨#[]⟩ = [] := rfl
theorem size_extract (s : ByteArray) (a b : Nat) : (s.extract a b).size = min b s.size - a := by
  rw [← nat_length, nat_extract, List.length_drop, List.length_take, nat_length]
theorem extract_all (s : ByteArray) : s.extract 0 s.size = s := nat_ext (by rw [nat_extract, List.drop_zero, List.take_of_length_le (by rw [nat_length]; exact Nat.le_refl _)])
theorem extract_none (s : ByteArray) (a : Nat) (h : s.size ≤ a) : s.extract a s.size = ⟨#[]⟩ := nat_ext (by rw [nat_extract, nat_nil, List.drop_eq_nil_of_le (by rw [List.length_take, nat_length]; omega)])
end Go.Proofs.YtnhigfkhdmkoeaaGreatDoor

