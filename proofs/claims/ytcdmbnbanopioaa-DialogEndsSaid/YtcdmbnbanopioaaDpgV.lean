/-
  The program's dialogue: two rows of numbers compared; what an id says.
  The program's region that calls Decode of UBX and keeps what it tells in a variable, whatever comes up first.
  The program's dialogue: what a frame says of a command: the two closures.
  The program's dialogue: what a UBX frame says of a command.
  The program's dialogue: the map of closures: it is made; one is looked up.
-/
import Derived.Test.YtcdmbnbanopioaaDpgT
import Derived.Test.YtcdmbnbanopioaaDlgV
import Derived.Test.YtcdmbnbanopioaaUbpD
import Derived.Test.YtcdmbnbanopioaaSrpD
import Derived.Test.YtcdmbnbanopioaaSrpM
namespace Go.Proofs.Ytcdmbnbanopioaa
open Go.RowKit
set_option linter.unusedVariables false

/- The program's dialogue: two rows of numbers compared; what an id says. -/
theorem take_zi (zs : List Int) (k : Nat) (h : k < zs.length) : zs.take (k + 1) = zs.take k ++ [zi zs k] := by
  rw [List.take_succ_eq_append_getElem h]
  unfold zi
  rw [List.getD_eq_getElem?_getD, List.getElem?_eq_getElem h]
  rfl
-- [EQUAL
set_option maxRecDepth 100000 in
set_option maxHeartbeats 4000000 in
theorem prg_equal (u v : Value) (zs ys : List Int) (w : World) (h1 : RowZ .i64 w u zs) (h2 : RowZ .i64 w v ys) (hl : zs.length ≤ 100000) :
    Calls Try.prog 37 #[u, v] w fun e w' => e = .returned (.bool (decide (zs = ys))) ∧ Grew w w' := by
  have H1 := Lib.hid h1
  have H2 := Lib.hid h2
  obtain ⟨A1, c1, rfl, hc1, hr1⟩ := h1
  obtain ⟨A2, c2, rfl, hc2, hr2⟩ := h2
  have HR1 := Lib.hid hr1
  have HR2 := Lib.hid hr2
  clear hr1 hr2
  go_enter Try.func37, Try.ntmps37
  by_cases hn : zs.length = ys.length
  · obtain ⟨n, hnn⟩ : ∃ n, ys.length = n := ⟨_, rfl⟩
    have hn2 := hn.trans hnn
    rw [hn2] at hl hc1 ⊢
    rw [hnn] at hc2 ⊢
    have HN := Lib.hid hnn
    have HM := Lib.hid hn2
    clear hn hn2 hnn
    go_wp2_with fail
    go_loopw [13] (fun i wr => ∃ k : Nat, k ≤ n ∧ i = .int .i64 (k : Nat) ∧ Hid (zs.take k = ys.take k) ∧ Hid (Grew w wr)) (fun i _ => n - (intOf i).toNat)
    case atStart => exact ⟨0, Nat.zero_le _, rfl, Lib.hid (by simp), Lib.hid (Grew.refl _)⟩
    case round =>
      obtain ⟨k, hk, rfl, HE, G⟩ := hrel
      by_cases hlt : k < n
      · obtain ⟨b1, o1, rfl, hb1, hx1⟩ := HR1.out (by rw [HM.out]; omega)
        obtain ⟨b2, o2, rfl, hb2, hx2⟩ := HR2.out (by rw [HN.out]; omega)
        have y1 := (G.out.cell (p := ⟨b1, o1 + k, none⟩) hb1).trans (hx1 k (by rw [HM.out]; exact hlt))
        have y2 := (G.out.cell (p := ⟨b2, o2 + k, none⟩) hb2).trans (hx2 k (by rw [HN.out]; exact hlt))
        have l1 := Nat.lt_of_lt_of_le hb1 G.out.size
        have l2 := Nat.lt_of_lt_of_le hb2 G.out.size
        have t1 := Lib.hid (take_zi zs k (by rw [HM.out]; exact hlt))
        have t2 := Lib.hid (take_zi ys k (by rw [HN.out]; exact hlt))
        have hki : (k : Int) < n := by omega
        obtain ⟨a, ha⟩ : ∃ a, zi zs k = a := ⟨_, rfl⟩
        obtain ⟨c, hcc⟩ : ∃ c, zi ys k = c := ⟨_, rfl⟩
        rw [ha] at y1 t1
        rw [hcc] at y2 t2
        clear hx1 hx2 ha hcc hb1 hb2
        go_upto_region 6 with fail
        have G6 := Lib.hid (G.out.drewN 0)
        by_cases e : a = c
        · subst e
          have hq : (a == a) = true := by simp
          go_quiet (fail)
          have G7 := Lib.hid (G.out.drewN nq)
          go_wp2_with fail
          go_round
          case rel => exact ⟨k + 1, by omega, by go_num, Lib.hid (by rw [t1.out, t2.out, HE.out]), G7⟩
          case measure => simp [intOf]; omega
        · have hq : (a == c) = false := by rw [beq_eq_false_iff_ne]; exact e
          go_quiet (fail)
          have G7 := Lib.hid (G.out.drewN nq)
          go_wp2_with fail
          go_ret
          have hne : ¬ zs = ys := by
            intro q
            apply e
            have h := t1.out.symm.trans ((congrArg (List.take (k + 1)) q).trans t2.out)
            rw [HE.out] at h
            have h := List.append_cancel_left h
            simpa using h
          exact ⟨by rw [decide_eq_false hne]; rfl, G7.out⟩
      · obtain rfl : k = n := by omega
        go_wp2_with fail
        go_ret
        have heq : zs = ys := by
          have h := HE.out
          rwa [List.take_of_length_le (by rw [HM.out]; exact Nat.le_refl _), List.take_of_length_le (by rw [HN.out]; exact Nat.le_refl _)] at h
        exact ⟨by rw [decide_eq_true heq]; rfl, G.out⟩
  · have hni : ¬ (zs.length : Int) = ys.length := by omega
    go_wp2_with fail
    go_ret
    have hne : ¬ zs = ys := fun q => hn (by rw [q])
    exact ⟨by rw [decide_eq_false hne]; rfl, Grew.refl _⟩
-- EQUAL]
/-- What an id says: 1 taken, 2 refused. -/
def ansOf (id yes no : Nat) : Nat := if id = yes then 1 else if id = no then 2 else 0
-- [ANSWER
set_option maxRecDepth 100000 in
set_option maxHeartbeats 4000000 in
theorem prg_answerOf (id yes no : Nat) (w : World) :
    Calls Try.prog 38 #[.int .u8 (id : Nat), .int .u8 (yes : Nat), .int .u8 (no : Nat)] w fun e w' => e = .returned (.int .i64 (ansOf id yes no : Nat)) ∧ w = w' := by
  go_enter Try.func38, Try.ntmps38
  unfold ansOf
  by_cases h1 : id = yes
  · subst h1
    rw [if_pos rfl]
    go_wp2_with fail
    go_ret
    exact ⟨rfl, rfl⟩
  · have n1 : ((id : Int) == yes) = false := by rw [beq_eq_false_iff_ne]; omega
    by_cases h2 : id = no
    · subst h2
      rw [if_neg h1, if_pos rfl]
      go_wp2_with fail
      go_ret
      exact ⟨rfl, rfl⟩
    · have n2 : ((id : Int) == no) = false := by rw [beq_eq_false_iff_ne]; omega
      rw [if_neg h1, if_neg h2]
      go_wp2_with fail
      go_ret
      exact ⟨rfl, rfl⟩
-- ANSWER]
/- The program's region that calls Decode of UBX and keeps what it tells in a variable, whatever comes up first. -/
noncomputable def pubOps : Array Oper := (Try.f35.body.map (regOps 3)).getD #[]
noncomputable def pubCode : Code := (Try.f35.body.bind (regCode 3)).getD .skip
def pubSh (ab b o o2 n cap a0 b0 er : Nat) : List (Value ⊕ Nat) := [.inl (.pointer (some ⟨ab, 1, none⟩)), .inl (.slice (some ⟨b, o, none⟩) n cap), .inl (.pointer (some ⟨b, o, none⟩)), .inl (.int .u8 (a0 : Nat)), .inl (.pointer (some ⟨ab, 1, none⟩)), .inl (.slice (some ⟨b, o, none⟩) n cap), .inl (.pointer (some ⟨b, o + 1, none⟩)), .inl (.int .u8 (b0 : Nat)), .inl (.pointer (some ⟨ab, 1, none⟩)), .inl (.slice (some ⟨b, o, none⟩) n cap), .inl (.slice (some ⟨b, o2, none⟩) (n - 2) (cap - 2)), .inr 0, .inr 0, .inr 1, .inl (.int .i64 (er : Nat)), .inr 2, .inr 4, .inl (.int .i64 (er : Nat))]
set_option maxRecDepth 1000000 in
set_option maxHeartbeats 8000000 in
theorem pub_call (ab b o o2 n cap a0 b0 er : Nat) (a1 b1 : Int) (zs : List Int) (W : World) (hc : o2 = if cap = 2 then o else o + 2) (hn : 2 ≤ n) (hcap : n ≤ cap) (hM : Hid (∀ w', Grew W w' → w'.cell? ⟨ab, 1, none⟩ = some (.slice (some ⟨b, o, none⟩) n cap) ∧ w'.cell? ⟨b, o, none⟩ = some (.int .u8 (a0 : Nat)) ∧ w'.cell? ⟨b, o + 1, none⟩ = some (.int .u8 (b0 : Nat))))
    (hD : Hid (∀ w', Grew W w' → Calls Try.prog 36 #[.int .u8 (a0 : Nat), .int .u8 (b0 : Nat), .slice (some ⟨b, o2, none⟩) (n - 2) (cap - 2)] w' fun e w'' => ∃ zv, e = .returned (.tuple #[.agg #[.int .u8 a1, .int .u8 b1, zv], .int .i64 (er : Nat)]) ∧ RowZ .i64 w'' zv zs ∧ Grew w' w'')) (K0 : Act → World → Prop) (t0 t1 t3 t4 t5 t6 t7 t8 t9 t10 t11 t12 t13 t14 t15 t16 t17 t18 t19 t20 t21 t22 t23 t24 t25 t26 t27 t28 t29 t30 t31 t32 t33 t34 t35 t36 t37 t38 t39 t40 t41 t42 t43 t44 t45 t46 t47 t48 t49 t50 t51 t52 : Value)
    (post : ∀ (p : Nat) (zv : Value) (w' : World) (s15 s16 s17 s18 s19 s20 s21 s22 s23 s24 s25 s26 s27 s28 s29 : Value), W.heap.size ≤ p → ThreeAt w' p (.int .u8 a1) (.int .u8 b1) zv → RowZ .i64 w' zv zs → Grew W w' → K0 ⟨#[t0, t1, .pointer (some ⟨ab, 0, none⟩), t3, .pointer (some ⟨p, 0, none⟩), .int .i64 (er : Nat), t6, t7, t8, t9, t10, t11, t12, t13, t14, s15, s16, s17, s18, s19, s20, s21, s22, s23, s24, s25, s26, s27, s28, s29, t30, t31, t32, t33, t34, t35, t36, t37, t38, t39, t40, t41, t42, t43, t44, t45, t46, t47, t48, t49, t50, t51, t52], []⟩ w') :
    Code.wp Try.prog pubCode (Exit.then K0 fun _ _ _ => False) ⟨#[t0, t1, .pointer (some ⟨ab, 0, none⟩), t3, t4, t5, t6, t7, t8, t9, t10, t11, t12, t13, t14, t15, t16, t17, t18, t19, t20, t21, t22, t23, t24, t25, t26, t27, t28, t29, t30, t31, t32, t33, t34, t35, t36, t37, t38, t39, t40, t41, t42, t43, t44, t45, t46, t47, t48, t49, t50, t51, t52], []⟩ W := by
  conv => arg 2; whnf
  refine wp_region_fill (n := 53) (ops := pubOps) (by kernel_rfl) (fun L i w' v => UCallS a1 b1 er zs W 16 ((pubSh ab b o o2 n cap a0 b0 er).getD i (.inr 4)) L w' v) ?_ ?_ ?_ ?_ ?_
  case refine_1 => kernel_rfl
  case refine_2 => kernel_rfl
  case refine_3 => rfl
  case refine_5 =>
    intro L c w' hL hdef hsz ho hd g
    obtain ⟨tm, df⟩ := c
    simp only at hdef hsz ho hd
    subst hdef
    obtain ⟨p, e4, hWp, _, h4⟩ := hd 15 4 (by kernel_rfl)
    rw [if_pos (hL 16 (of_decide_eq_true (by kernel_rfl)))] at h4
    obtain ⟨zv, hvar, hrow⟩ := h4
    have e5 : tm[5]?.getD undef = .int .i64 (er : Nat) := hd 17 5 (by kernel_rfl)
    have f0 : tm[0]?.getD undef = t0 := ho 0 (by kernel_rfl)
    have f1 : tm[1]?.getD undef = t1 := ho 1 (by kernel_rfl)
    have f2 : tm[2]?.getD undef = .pointer (some ⟨ab, 0, none⟩) := ho 2 (by kernel_rfl)
    have f3 : tm[3]?.getD undef = t3 := ho 3 (by kernel_rfl)
    have f6 : tm[6]?.getD undef = t6 := ho 6 (by kernel_rfl)
    have f7 : tm[7]?.getD undef = t7 := ho 7 (by kernel_rfl)
    have f8 : tm[8]?.getD undef = t8 := ho 8 (by kernel_rfl)
    have f9 : tm[9]?.getD undef = t9 := ho 9 (by kernel_rfl)
    have f10 : tm[10]?.getD undef = t10 := ho 10 (by kernel_rfl)
    have f11 : tm[11]?.getD undef = t11 := ho 11 (by kernel_rfl)
    have f12 : tm[12]?.getD undef = t12 := ho 12 (by kernel_rfl)
    have f13 : tm[13]?.getD undef = t13 := ho 13 (by kernel_rfl)
    have f14 : tm[14]?.getD undef = t14 := ho 14 (by kernel_rfl)
    have f30 : tm[30]?.getD undef = t30 := ho 30 (by kernel_rfl)
    have f31 : tm[31]?.getD undef = t31 := ho 31 (by kernel_rfl)
    have f32 : tm[32]?.getD undef = t32 := ho 32 (by kernel_rfl)
    have f33 : tm[33]?.getD undef = t33 := ho 33 (by kernel_rfl)
    have f34 : tm[34]?.getD undef = t34 := ho 34 (by kernel_rfl)
    have f35 : tm[35]?.getD undef = t35 := ho 35 (by kernel_rfl)
    have f36 : tm[36]?.getD undef = t36 := ho 36 (by kernel_rfl)
    have f37 : tm[37]?.getD undef = t37 := ho 37 (by kernel_rfl)
    have f38 : tm[38]?.getD undef = t38 := ho 38 (by kernel_rfl)
    have f39 : tm[39]?.getD undef = t39 := ho 39 (by kernel_rfl)
    have f40 : tm[40]?.getD undef = t40 := ho 40 (by kernel_rfl)
    have f41 : tm[41]?.getD undef = t41 := ho 41 (by kernel_rfl)
    have f42 : tm[42]?.getD undef = t42 := ho 42 (by kernel_rfl)
    have f43 : tm[43]?.getD undef = t43 := ho 43 (by kernel_rfl)
    have f44 : tm[44]?.getD undef = t44 := ho 44 (by kernel_rfl)
    have f45 : tm[45]?.getD undef = t45 := ho 45 (by kernel_rfl)
    have f46 : tm[46]?.getD undef = t46 := ho 46 (by kernel_rfl)
    have f47 : tm[47]?.getD undef = t47 := ho 47 (by kernel_rfl)
    have f48 : tm[48]?.getD undef = t48 := ho 48 (by kernel_rfl)
    have f49 : tm[49]?.getD undef = t49 := ho 49 (by kernel_rfl)
    have f50 : tm[50]?.getD undef = t50 := ho 50 (by kernel_rfl)
    have f51 : tm[51]?.getD undef = t51 := ho 51 (by kernel_rfl)
    have f52 : tm[52]?.getD undef = t52 := ho 52 (by kernel_rfl)
    have e : tm = #[tm[0]?.getD undef, tm[1]?.getD undef, tm[2]?.getD undef, tm[3]?.getD undef, tm[4]?.getD undef, tm[5]?.getD undef, tm[6]?.getD undef, tm[7]?.getD undef, tm[8]?.getD undef, tm[9]?.getD undef, tm[10]?.getD undef, tm[11]?.getD undef, tm[12]?.getD undef, tm[13]?.getD undef, tm[14]?.getD undef, tm[15]?.getD undef, tm[16]?.getD undef, tm[17]?.getD undef, tm[18]?.getD undef, tm[19]?.getD undef, tm[20]?.getD undef, tm[21]?.getD undef, tm[22]?.getD undef, tm[23]?.getD undef, tm[24]?.getD undef, tm[25]?.getD undef, tm[26]?.getD undef, tm[27]?.getD undef, tm[28]?.getD undef, tm[29]?.getD undef, tm[30]?.getD undef, tm[31]?.getD undef, tm[32]?.getD undef, tm[33]?.getD undef, tm[34]?.getD undef, tm[35]?.getD undef, tm[36]?.getD undef, tm[37]?.getD undef, tm[38]?.getD undef, tm[39]?.getD undef, tm[40]?.getD undef, tm[41]?.getD undef, tm[42]?.getD undef, tm[43]?.getD undef, tm[44]?.getD undef, tm[45]?.getD undef, tm[46]?.getD undef, tm[47]?.getD undef, tm[48]?.getD undef, tm[49]?.getD undef, tm[50]?.getD undef, tm[51]?.getD undef, tm[52]?.getD undef] := (arr_getS tm undef hsz).trans (by kernel_rfl)
    rw [e4, e5, f0, f1, f2, f3, f6, f7, f8, f9, f10, f11, f12, f13, f14, f30, f31, f32, f33, f34, f35, f36, f37, f38, f39, f40, f41, f42, f43, f44, f45, f46, f47, f48, f49, f50, f51, f52] at e
    rw [e]
    exact post p zv w' (tm[15]?.getD undef) (tm[16]?.getD undef) (tm[17]?.getD undef) (tm[18]?.getD undef) (tm[19]?.getD undef) (tm[20]?.getD undef) (tm[21]?.getD undef) (tm[22]?.getD undef) (tm[23]?.getD undef) (tm[24]?.getD undef) (tm[25]?.getD undef) (tm[26]?.getD undef) (tm[27]?.getD undef) (tm[28]?.getD undef) (tm[29]?.getD undef) hWp hvar hrow g
  simp only [AllFrom]
  refine ⟨?_, ?_, ?_, ?_, ?_, ?_, ?_, ?_, ?_, ?_, ?_, ?_, ?_, ?_, ?_, ?_, ?_, ?_, trivial⟩
  · intro L c w' hL ho hw hc' hd g
    have e0 : c.tmps[2]?.getD undef = .pointer (some ⟨ab, 0, none⟩) := ho 2 (by kernel_rfl)
    refine us_of hd g (by decide) (each_value (v := .pointer (some ⟨ab, 1, none⟩)) ?_ rfl)
    simp [execOp, go_sem, e0]
  · intro L c w' hL ho hw hc' hd g
    have e0 : c.tmps[16]?.getD undef = .pointer (some ⟨ab, 1, none⟩) := hd 0 16 (hw 0 (by kernel_rfl)) (by kernel_rfl)
    have hx := (hM.out _ g).1
    refine us_of hd g (by decide) (each_value (v := .slice (some ⟨b, o, none⟩) n cap) ?_ rfl)
    simp [execOp, go_sem, e0, hx]
  · intro L c w' hL ho hw hc' hd g
    have e0 : c.tmps[17]?.getD undef = .slice (some ⟨b, o, none⟩) n cap := hd 1 17 (hw 1 (by kernel_rfl)) (by kernel_rfl)
    have hb : 0 < n := by omega
    have hbi : (0 : Int) < n := by omega
    refine us_of hd g (by decide) (each_value (v := .pointer (some ⟨b, o, none⟩)) ?_ rfl)
    simp [execOp, go_sem, e0, hb]
  · intro L c w' hL ho hw hc' hd g
    have e0 : c.tmps[18]?.getD undef = .pointer (some ⟨b, o, none⟩) := hd 2 18 (hw 2 (by kernel_rfl)) (by kernel_rfl)
    have hx := (hM.out _ g).2.1
    refine us_of hd g (by decide) (each_value (v := .int .u8 (a0 : Nat)) ?_ rfl)
    simp [execOp, go_sem, e0, hx]
  · intro L c w' hL ho hw hc' hd g
    have e0 : c.tmps[2]?.getD undef = .pointer (some ⟨ab, 0, none⟩) := ho 2 (by kernel_rfl)
    refine us_of hd g (by decide) (each_value (v := .pointer (some ⟨ab, 1, none⟩)) ?_ rfl)
    simp [execOp, go_sem, e0]
  · intro L c w' hL ho hw hc' hd g
    have e0 : c.tmps[20]?.getD undef = .pointer (some ⟨ab, 1, none⟩) := hd 4 20 (hw 4 (by kernel_rfl)) (by kernel_rfl)
    have hx := (hM.out _ g).1
    refine us_of hd g (by decide) (each_value (v := .slice (some ⟨b, o, none⟩) n cap) ?_ rfl)
    simp [execOp, go_sem, e0, hx]
  · intro L c w' hL ho hw hc' hd g
    have e0 : c.tmps[21]?.getD undef = .slice (some ⟨b, o, none⟩) n cap := hd 5 21 (hw 5 (by kernel_rfl)) (by kernel_rfl)
    have hb : 1 < n := by omega
    have hbi : (1 : Int) < n := by omega
    refine us_of hd g (by decide) (each_value (v := .pointer (some ⟨b, o + 1, none⟩)) ?_ rfl)
    simp [execOp, go_sem, e0, hbi]
  · intro L c w' hL ho hw hc' hd g
    have e0 : c.tmps[22]?.getD undef = .pointer (some ⟨b, o + 1, none⟩) := hd 6 22 (hw 6 (by kernel_rfl)) (by kernel_rfl)
    have hx := (hM.out _ g).2.2
    refine us_of hd g (by decide) (each_value (v := .int .u8 (b0 : Nat)) ?_ rfl)
    simp [execOp, go_sem, e0, hx]
  · intro L c w' hL ho hw hc' hd g
    have e0 : c.tmps[2]?.getD undef = .pointer (some ⟨ab, 0, none⟩) := ho 2 (by kernel_rfl)
    refine us_of hd g (by decide) (each_value (v := .pointer (some ⟨ab, 1, none⟩)) ?_ rfl)
    simp [execOp, go_sem, e0]
  · intro L c w' hL ho hw hc' hd g
    have e0 : c.tmps[24]?.getD undef = .pointer (some ⟨ab, 1, none⟩) := hd 8 24 (hw 8 (by kernel_rfl)) (by kernel_rfl)
    have hx := (hM.out _ g).1
    refine us_of hd g (by decide) (each_value (v := .slice (some ⟨b, o, none⟩) n cap) ?_ rfl)
    simp [execOp, go_sem, e0, hx]
  · intro L c w' hL ho hw hc' hd g
    have e0 : c.tmps[25]?.getD undef = .slice (some ⟨b, o, none⟩) n cap := hd 9 25 (hw 9 (by kernel_rfl)) (by kernel_rfl)
    refine us_of hd g (by decide) (each_value (v := .slice (some ⟨b, o2, none⟩) (n - 2) (cap - 2)) ?_ rfl)
    have h2 : 2 ≤ cap := by omega
    have h3 : ¬ (n : Int) < 2 := by omega
    by_cases q : cap = 2
    · rw [if_pos q] at hc
      subst q
      simp [execOp, go_sem, e0, hc, h3]
    · rw [if_neg q] at hc
      simp [execOp, go_sem, e0, hc, h3, q]
  · intro L c w' hL ho hw hc' hd g
    have e1 : c.tmps[19]?.getD undef = .int .u8 (a0 : Nat) := hd 3 19 (hw 3 (by kernel_rfl)) (by kernel_rfl)
    have e2 : c.tmps[23]?.getD undef = .int .u8 (b0 : Nat) := hd 7 23 (hw 7 (by kernel_rfl)) (by kernel_rfl)
    have e3 : c.tmps[26]?.getD undef = .slice (some ⟨b, o2, none⟩) (n - 2) (cap - 2) := hd 10 26 (hw 10 (by kernel_rfl)) (by kernel_rfl)
    exact us_of hd g (by decide) (each_call (f := 36) (args := #[.int .u8 (a0 : Nat), .int .u8 (b0 : Nat), .slice (some ⟨b, o2, none⟩) (n - 2) (cap - 2)]) (by simp [go_sem, e1, e2, e3]) ((hD.out _ g).mono (by rintro e w'' ⟨zv, rfl, hk, g'⟩; exact ⟨_, rfl, ⟨zv, rfl, hk⟩, g'⟩)))
  · intro L c w' hL ho hw hc' hd g
    obtain ⟨zv, e1, hl⟩ : ∃ zv, c.tmps[27]?.getD undef = .tuple #[.agg #[.int .u8 a1, .int .u8 b1, zv], .int .i64 (er : Nat)] ∧ RowZ .i64 w' zv zs := hd 11 27 (hw 11 (by kernel_rfl)) (by kernel_rfl)
    refine us_of hd g (by decide) (each_value (v := .tuple #[.agg #[.int .u8 a1, .int .u8 b1, zv], .int .i64 (er : Nat)]) ?_ ⟨zv, rfl, hl⟩)
    simp [execOp, go_sem, e1]
  · intro L c w' hL ho hw hc' hd g
    obtain ⟨zv, e1, hl⟩ : ∃ zv, c.tmps[15]?.getD undef = .tuple #[.agg #[.int .u8 a1, .int .u8 b1, zv], .int .i64 (er : Nat)] ∧ RowZ .i64 w' zv zs := hd 12 15 (hw 12 (by kernel_rfl)) (by kernel_rfl)
    refine us_of hd g (by decide) (each_value (v := .agg #[.int .u8 a1, .int .u8 b1, zv]) ?_ ⟨zv, rfl, hl⟩)
    simp [execOp, go_sem, e1]
  · intro L c w' hL ho hw hc' hd g
    obtain ⟨zv, e1, hl⟩ : ∃ zv, c.tmps[15]?.getD undef = .tuple #[.agg #[.int .u8 a1, .int .u8 b1, zv], .int .i64 (er : Nat)] ∧ RowZ .i64 w' zv zs := hd 12 15 (hw 12 (by kernel_rfl)) (by kernel_rfl)
    refine us_of hd g (by decide) (each_value (v := .int .i64 (er : Nat)) ?_ rfl)
    simp [execOp, go_sem, e1]
  · intro L c w' hL ho hw hc' hd g
    have hn : L 16 = false := by
      cases q : L 16 with
      | false => rfl
      | true => have := hc' 16 15 q (by kernel_rfl); rw [hL] at this; cases this
    refine us_of hd g (by decide) (each_made (v := .pointer (some ⟨w'.heap.size, 0, none⟩)) (w1 := w'.alloc (.cells #[.int .u8 0, .int .u8 0, .slice none 0 0] 79)) ?_ ((Grew.refl _).alloc _) ⟨_, rfl, g.size, by simp, ?_⟩)
    · simp [execOp, go_sem]
    · rw [also_ne (by decide), hn, if_neg (by decide)]
      exact heap_alloc_new _ _
  · intro L c w' hL ho hw hc' hd g
    exact us_store (ops := pubOps) (sh := (pubSh ab b o o2 n cap a0 b0 er)) (u := 4) (t := 28) rfl rfl hd g (hd 15 4 (hw 15 (by kernel_rfl)) (by kernel_rfl)) (hd 13 28 (hw 13 (by kernel_rfl)) (by kernel_rfl)) hL (by kernel_rfl)
  · intro L c w' hL ho hw hc' hd g
    have e0 : c.tmps[29]?.getD undef = .int .i64 (er : Nat) := hd 14 29 (hw 14 (by kernel_rfl)) (by kernel_rfl)
    refine us_of hd g (by decide) (each_value (v := .int .i64 (er : Nat)) ?_ rfl)
    simp [execOp, go_sem, e0]
/- The program's dialogue: what a frame says of a command: the two closures. -/
/-- What a UBX frame, a SiRF frame says of a command. -/
def aUbx (q : Cmd) (k : Nat) (S : List Nat) : Nat :=
  if k = 2 ∧ 2 ≤ S.length ∧ (ubxDec (wd S 0 * 256 + wd S 1) (S.drop 2)).2 = 0 ∧ wd S 0 = 5 ∧ (ubxDec (wd S 0 * 256 + wd S 1) (S.drop 2)).1 = [(q.cls : Int), (q.id : Int)] then ansOf (wd S 1) 1 0 else 0
def aSrf (q : Cmd) (k : Nat) (S : List Nat) : Nat :=
  if k = 3 ∧ (srfDec S).2.2 = 0 ∧ (srfDec S).2.1 = [(q.id : Int)] then ansOf (srfDec S).1 11 12 else 0
theorem rowZ_two (w : World) (x y : Int) (E : TypeId) : RowZ .i64 (w.alloc (.cells #[.int .i64 x, .int .i64 y] E)) (.slice (some ⟨w.heap.size, 0, none⟩) 2 2) [x, y] :=
  ⟨_, 2, rfl, Nat.le_refl _, fun _ => ⟨_, 0, rfl, by simp, fun i hi => by
    match i, hi with
    | 0, _ => simp [go_sem, zi]
    | 1, _ => simp [go_sem, zi]⟩⟩
theorem rowZ_one (w : World) (x : Int) (E : TypeId) : RowZ .i64 (w.alloc (.cells #[.int .i64 x] E)) (.slice (some ⟨w.heap.size, 0, none⟩) 1 1) [x] :=
  ⟨_, 1, rfl, Nat.le_refl _, fun _ => ⟨_, 0, rfl, by simp, fun i hi => by
    match i, hi with
    | 0, _ => simp [go_sem, zi]⟩⟩
-- [ANSB
set_option maxRecDepth 100000 in
set_option maxHeartbeats 4000000 in
theorem prg_ans2 (cb : Nat) (q : Cmd) (k : Nat) (v : Value) (S : List Nat) (w : World) (lb : cb < w.heap.size) (d3 : w.cell? ⟨cb, 3, none⟩ = some (.int .u8 (q.id : Nat))) (ki : q.id < 256) (hk : k < 256) (hr : Row .u8 w v S) (hB : Bytes S) (hl : S.length ≤ 100000) :
    Calls Try.prog 39 #[.agg #[.int .u8 (k : Nat), v], .pointer (some ⟨cb, 0, none⟩)] w fun e w' => e = .returned (.int .i64 (aSrf q k S : Nat)) ∧ Grew w w' := by
  have HR := Lib.hid hr
  obtain ⟨A, c, rfl, hc, _⟩ := hr
  by_cases hk3 : k = 3
  · subst hk3
    have HDEC := fun w' (G : Grew w w') => Lib.hid (srp_Decode _ S w' (HR.out.grew G) hB hl)
    have hans : aSrf q 3 S = if (srfDec S).2.2 = 0 ∧ (srfDec S).2.1 = [(q.id : Int)] then ansOf (srfDec S).1 11 12 else 0 := by
      unfold aSrf
      by_cases z : (srfDec S).2.2 = 0 ∧ (srfDec S).2.1 = [(q.id : Int)]
      · rw [if_pos ⟨rfl, z⟩, if_pos z]
      · rw [if_neg (fun y => z y.2), if_neg z]
    have hzl : (srfDec S).2.1.length ≤ 100000 := by
      unfold srfDec
      split
      · simp
      · split
        · simp
        · split
          · simp
          · simp only [bvalsTo_length]
            have := (srf_layOk (wd S 0)).even
            omega
    unfold DecS at HDEC
    generalize hrr : srfDec S = rr at *
    obtain ⟨m, zs, er⟩ := rr
    simp only at HDEC hans hzl
    have HANS := Lib.hid hans
    clear hans hrr
    go_enter Try.func39, Try.ntmps39
    go_upto_region 1 with fail
    obtain ⟨W, hW, g0, T0⟩ := twoC_new w (.int .u8 3) (.slice A S.length c) 37
    rw [hW]
    clear hW
    obtain ⟨_, s0, s1, _, _⟩ := T0
    have HD := HDEC _ g0
    clear HDEC
    go_upto_region 4 with (go_at_call 40; refine HD.out.mono ?_; rintro e w4 ⟨zv, rfl, hrow, _, g4⟩; have HROW := Lib.hid hrow; obtain ⟨ZA, zc, rfl, hzc⟩ := hrow.form; clear hrow)
    obtain ⟨V, hV, gV, TV⟩ := twoC_new w4 (.int .u8 (m : Nat)) (.slice ZA zs.length zc) 85
    rw [hV]
    clear hV
    have GG := Lib.hid ((g0.trans g4).trans gV)
    obtain ⟨lv, v0, v1, _, _⟩ := TV
    have u3 := (GG.out.cell (p := ⟨cb, 3, none⟩) lb).trans d3
    have lcb := Nat.lt_of_lt_of_le lb GG.out.size
    by_cases her : er = 0
    · subst her
      have gA := (Grew.refl V).alloc (.cells #[.int .i64 (q.id : Nat)] 2)
      have HE := Lib.hid (prg_equal _ _ zs [(q.id : Int)] _ ((HROW.out.grew gV).grew gA) (rowZ_one V (q.id : Nat) 2) hzl)
      have GA := Lib.hid gA
      have m3 : IntKind.i64.wrap (q.id : Int) = (q.id : Int) := IntWalk.i64_in _ (by omega)
      have HA1 : Hid (∀ w, Calls Try.prog 38 #[.int .u8 (m : Nat), .int .u8 11, .int .u8 12] w fun e w' => e = .returned (.int .i64 (ansOf (m) 11 12 : Nat)) ∧ w = w') := Lib.hid (fun w => prg_answerOf m 11 12 w)
      clear gA s0 s1 d3 HD
      by_cases hz : zs = [(q.id : Int)]
      · have hyes : Hid (aSrf q 3 S = ansOf m 11 12) := Lib.hid (by rw [HANS.out, if_pos ⟨rfl, hz⟩])
        rw [decide_eq_true hz] at HE
        clear hz
        have HVV := fun w' (G : Grew V w') => (⟨Nat.lt_of_lt_of_le lv G.size, (G.cell (p := ⟨w4.heap.size, 0, none⟩) lv).trans v0⟩ : w4.heap.size < w'.heap.size ∧ w'.cell? ⟨w4.heap.size, 0, none⟩ = some (.int .u8 (m : Nat)))
        replace HVV := Lib.hid HVV
        go_upto_region 6 with (go_at_call 37; refine HE.out.mono ?_; rintro e w5 ⟨rfl, g5⟩; have G5 := Lib.hid (GA.out.trans g5); clear lv v0; obtain ⟨lv, v0⟩ := HVV.out _ G5.out)
        go_wp2_with (go_at_call 38; refine (HA1.out _).mono ?_; rintro e w6 ⟨rfl, hw6⟩; subst hw6)
        go_ret
        rw [hyes.out]
        exact ⟨rfl, GG.out.trans G5.out⟩
      · have hno : Hid (aSrf q 3 S = 0) := Lib.hid (by rw [HANS.out, if_neg (fun y => hz y.2)])
        rw [decide_eq_false hz] at HE
        clear hz
        go_wp2_with (go_at_call 37; refine HE.out.mono ?_; rintro e w5 ⟨rfl, g5⟩; have G5 := Lib.hid (GA.out.trans g5))
        go_ret
        rw [hno.out]
        exact ⟨rfl, GG.out.trans G5.out⟩
    · have ner : ¬ (er : Int) = 0 := by omega
      have hno : Hid (aSrf q 3 S = 0) := Lib.hid (by rw [HANS.out, if_neg (fun y => her y.1)])
      go_wp2_with fail
      go_ret
      rw [hno.out]
      exact ⟨rfl, GG.out⟩
  · have nk3 : ¬ (k : Int) = 3 := by omega
    have hno : Hid (aSrf q k S = 0) := Lib.hid (by unfold aSrf; rw [if_neg (fun y => hk3 y.1)])
    go_enter Try.func39, Try.ntmps39
    go_upto_region 1 with fail
    obtain ⟨W, hW, g0, T0⟩ := twoC_new w (.int .u8 (k : Nat)) (.slice A S.length c) 37
    rw [hW]
    clear hW
    obtain ⟨_, s0, s1, _, _⟩ := T0
    go_wp2_with fail
    go_ret
    rw [hno.out]
    exact ⟨rfl, g0⟩
-- ANSB]
/- The program's dialogue: what a UBX frame says of a command. -/
-- [ANSA
set_option maxRecDepth 100000 in
set_option maxHeartbeats 4000000 in
theorem prg_ans1 (cb : Nat) (q : Cmd) (k : Nat) (v : Value) (S : List Nat) (w : World) (lb : cb < w.heap.size) (d2 : w.cell? ⟨cb, 2, none⟩ = some (.int .u8 (q.cls : Nat))) (d3 : w.cell? ⟨cb, 3, none⟩ = some (.int .u8 (q.id : Nat))) (kc : q.cls < 256) (ki : q.id < 256) (hk : k < 256) (hr : Row .u8 w v S) (hB : Bytes S) (hl : S.length ≤ 100000) :
    Calls Try.prog 35 #[.agg #[.int .u8 (k : Nat), v], .pointer (some ⟨cb, 0, none⟩)] w fun e w' => e = .returned (.int .i64 (aUbx q k S : Nat)) ∧ Grew w w' := by
  have HR := Lib.hid hr
  obtain ⟨A, c, rfl, hc, hrow⟩ := hr
  have hr1 := Lib.hid hrow
  clear hrow
  by_cases hk2 : k = 2
  · subst hk2
    by_cases hl2 : 2 ≤ S.length
    · obtain ⟨b, o, rfl, hb, hcell⟩ := hr1.out (by omega)
      have x0 := hcell 0 (by omega)
      have x1 := hcell 1 (by omega)
      rw [Nat.add_zero] at x0
      have hl2' : ¬ (S.length : Int) < 2 := by omega
      clear hr1 hcell
      go_enter Try.func35, Try.ntmps35
      go_upto_region 1 with fail
      obtain ⟨W, hW, g0, T0⟩ := twoC_new w (.int .u8 2) (.slice (some ⟨b, o, none⟩) S.length c) 37
      rw [hW]
      clear hW
      have T1 := Lib.hid T0
      obtain ⟨_, s0, s1, _, _⟩ := T0
      go_upto_region 3 with fail
      have hB2 : Bytes (S.drop 2) := fun i => by rw [wd_drop]; exact hB _
      have HCUT := ((HR.out.grew g0).cut 2 hl2)
      obtain ⟨o2, ho2⟩ : ∃ o2, o2 = if c = 2 then o else o + 2 := ⟨_, rfl⟩
      have ecut : (if c = 2 then (⟨b, o, none⟩ : Addr) else ⟨b, o + 2, none⟩) = ⟨b, o2, none⟩ := by rw [ho2]; split <;> rfl
      rw [ecut] at HCUT
      have HDEC := fun w' (G : Grew W w') => ubp_Decode (wd S 0) (wd S 1) _ (S.drop 2) w' (hB 0) (hB 1) (HCUT.grew G) hB2 (by rw [List.length_drop]; omega)
      have y0 := (g0.cell (p := ⟨b, o, none⟩) hb).trans x0
      have y1 := (g0.cell (p := ⟨b, o + 1, none⟩) hb).trans x1
      have hbW := Nat.lt_of_lt_of_le hb g0.size
      have K := Lib.hid (fun w' (G : Grew W w') => (⟨(T1.out.grew G).c1, (G.cell (p := ⟨b, o, none⟩) hbW).trans y0, (G.cell (p := ⟨b, o + 1, none⟩) hbW).trans y1⟩ : w'.cell? ⟨w.heap.size, 1, none⟩ = some (.slice (some ⟨b, o, none⟩) S.length c) ∧ w'.cell? ⟨b, o, none⟩ = some (.int .u8 (wd S 0 : Nat)) ∧ w'.cell? ⟨b, o + 1, none⟩ = some (.int .u8 (wd S 1 : Nat))))
      have hans : aUbx q 2 S = if (ubxDec (wd S 0 * 256 + wd S 1) (S.drop 2)).2 = 0 ∧ wd S 0 = 5 ∧ (ubxDec (wd S 0 * 256 + wd S 1) (S.drop 2)).1 = [(q.cls : Int), (q.id : Int)] then ansOf (wd S 1) 1 0 else 0 := by
        unfold aUbx
        by_cases z : (ubxDec (wd S 0 * 256 + wd S 1) (S.drop 2)).2 = 0 ∧ wd S 0 = 5 ∧ (ubxDec (wd S 0 * 256 + wd S 1) (S.drop 2)).1 = [(q.cls : Int), (q.id : Int)]
        · rw [if_pos ⟨rfl, hl2, z⟩, if_pos z]
        · rw [if_neg (fun y => z y.2.2), if_neg z]
      unfold DecT at HDEC
      have hzl : (ubxDec (wd S 0 * 256 + wd S 1) (S.drop 2)).1.length ≤ 100000 := by
        unfold ubxDec
        split
        · simp
        · split
          · simp
          · simp only [valsTo_length]
            have := (ubx_layOk (wd S 0 * 256 + wd S 1)).even
            omega
      generalize hrr : ubxDec (wd S 0 * 256 + wd S 1) (S.drop 2) = rr at *
      obtain ⟨zs, er⟩ := rr
      simp only at HDEC hans hzl
      have HANS := Lib.hid hans
      have HD : Hid (∀ w', Grew W w' → Calls Try.prog 36 #[.int .u8 (wd S 0 : Nat), .int .u8 (wd S 1 : Nat), .slice (some ⟨b, o2, none⟩) (S.length - 2) (c - 2)] w' fun e w'' => ∃ zv, e = .returned (.tuple #[.agg #[.int .u8 ((if er = 0 then wd S 0 else 0 : Nat) : Int), .int .u8 ((if er = 0 then wd S 1 else 0 : Nat) : Int), zv], .int .i64 (er : Nat)]) ∧ RowZ .i64 w'' zv zs ∧ Grew w' w'') := Lib.hid (fun w' G => (HDEC w' G).mono (fun e w'' ⟨zv, e1, h1, _, h2⟩ => ⟨zv, e1, h1, h2⟩))
      clear HCUT hB2 x0 x1 s0 HR HDEC ecut hans hrr
      go_cut [4, 5] (fun s t wx => ∃ (p : Nat) (zv : Value), s = .pointer (some ⟨p, 0, none⟩) ∧ t = .int .i64 (er : Nat) ∧ Hid (ThreeAt wx p (.int .u8 ((if er = 0 then wd S 0 else 0 : Nat) : Int)) (.int .u8 ((if er = 0 then wd S 1 else 0 : Nat) : Int)) zv) ∧ Hid (RowZ .i64 wx zv zs) ∧ Hid (Grew W wx))
      case first =>
        refine wp_thenS (pub_call w.heap.size b o o2 S.length c (wd S 0) (wd S 1) er _ _ zs W ho2 hl2 hc K HD _ _ _ _ _ _ _ _ _ _ _ _ _ _ _ _ _ _ _ _ _ _ _ _ _ _ _ _ _ _ _ _ _ _ _ _ _ _ _ _ _ _ _ _ _ _ _ _ _ _ _ _ _ (fun p zv wx s15 s16 s17 s18 s19 s20 s21 s22 s23 s24 s25 s26 s27 s28 s29 hWp hvar hrow hg => ?_))
        go_wp2_with fail
        go_meet
        case rel => exact ⟨p, zv, rfl, rfl, Lib.hid hvar, Lib.hid hrow, Lib.hid hg⟩
      case rest =>
        obtain ⟨p, zv, rfl, rfl, hvar, hrow, hg⟩ := hcut
        obtain ⟨wX, hwX⟩ : ∃ x, x = wc := ⟨_, rfl⟩
        subst hwX
        have GG := Lib.hid (g0.trans hg.out)
        obtain ⟨lp, v0, v1, v2, _, _, _⟩ := hvar.out
        have u2 := (GG.out.cell (p := ⟨cb, 2, none⟩) lb).trans d2
        have u3 := (GG.out.cell (p := ⟨cb, 3, none⟩) lb).trans d3
        have lcb := Nat.lt_of_lt_of_le lb GG.out.size
        obtain ⟨ZA, zc, rfl, hzc, _⟩ := id hrow.out
        by_cases her : er = 0
        · subst her
          rw [if_pos rfl] at v0 v1
          by_cases h5 : wd S 0 = 5
          · have gA := (Grew.refl wX).alloc (.cells #[.int .i64 (q.cls : Nat), .int .i64 (q.id : Nat)] 2)
            have HE := Lib.hid (prg_equal _ _ zs [(q.cls : Int), (q.id : Int)] _ (hrow.out.grew gA) (rowZ_two wX (q.cls : Nat) (q.id : Nat) 2) hzl)
            have GA := Lib.hid gA
            have m2 : IntKind.i64.wrap (q.cls : Int) = (q.cls : Int) := IntWalk.i64_in _ (by omega)
            have m3 : IntKind.i64.wrap (q.id : Int) = (q.id : Int) := IntWalk.i64_in _ (by omega)
            rw [h5] at v0
            have HA1 : Hid (∀ w, Calls Try.prog 38 #[.int .u8 (wd S 1 : Nat), .int .u8 1, .int .u8 0] w fun e w' => e = .returned (.int .i64 (ansOf (wd S 1) 1 0 : Nat)) ∧ w = w') := Lib.hid (fun w => prg_answerOf (wd S 1) 1 0 w)
            clear gA K HD d2 d3 y0 y1 s1
            by_cases hz : zs = [(q.cls : Int), (q.id : Int)]
            · have hyes : Hid (aUbx q 2 S = ansOf (wd S 1) 1 0) := Lib.hid (by rw [HANS.out, if_pos ⟨rfl, h5, hz⟩])
              rw [decide_eq_true hz] at HE
              clear hz
              have HVV := fun w' (G : Grew wX w') => (⟨Nat.lt_of_lt_of_le lp G.size, (G.cell (p := ⟨p, 1, none⟩) lp).trans v1⟩ : p < w'.heap.size ∧ w'.cell? ⟨p, 1, none⟩ = some (.int .u8 (wd S 1 : Nat)))
              replace HVV := Lib.hid HVV
              go_upto_region 6 with (go_at_call 37; refine HE.out.mono ?_; rintro e w5 ⟨rfl, g5⟩; have G5 := Lib.hid (GA.out.trans g5); clear lp v1; obtain ⟨lp, v1⟩ := HVV.out _ G5.out)
              go_wp2_with (go_at_call 38; refine (HA1.out _).mono ?_; rintro e w6 ⟨rfl, hw6⟩; subst hw6)
              go_ret
              rw [hyes.out]
              exact ⟨rfl, GG.out.trans G5.out⟩
            · have hno : Hid (aUbx q 2 S = 0) := Lib.hid (by rw [HANS.out, if_neg (fun y => hz y.2.2)])
              rw [decide_eq_false hz] at HE
              clear hz
              go_wp2_with (go_at_call 37; refine HE.out.mono ?_; rintro e w5 ⟨rfl, g5⟩; have G5 := Lib.hid (GA.out.trans g5))
              go_ret
              rw [hno.out]
              exact ⟨rfl, GG.out.trans G5.out⟩
          · have hno : Hid (aUbx q 2 S = 0) := Lib.hid (by rw [HANS.out, if_neg (fun y => h5 y.2.1)])
            have n5 : ¬ (wd S 0 : Int) = 5 := by omega
            go_wp2_with fail
            go_ret
            rw [hno.out]
            exact ⟨rfl, GG.out⟩
        · have ner : ¬ (er : Int) = 0 := by omega
          have hno : Hid (aUbx q 2 S = 0) := Lib.hid (by rw [HANS.out, if_neg (fun y => her y.1)])
          go_wp2_with fail
          go_ret
          rw [hno.out]
          exact ⟨rfl, GG.out⟩
    · have n2 : (S.length : Int) < 2 := by omega
      have hno : Hid (aUbx q 2 S = 0) := Lib.hid (by unfold aUbx; rw [if_neg (fun y => hl2 y.2.1)])
      go_enter Try.func35, Try.ntmps35
      go_upto_region 1 with fail
      obtain ⟨W, hW, g0, T0⟩ := twoC_new w (.int .u8 2) (.slice A S.length c) 37
      rw [hW]
      clear hW
      obtain ⟨_, s0, s1, _, _⟩ := T0
      go_wp2_with fail
      go_ret
      rw [hno.out]
      exact ⟨rfl, g0⟩
  · have nk2 : ¬ (k : Int) = 2 := by omega
    have hno : Hid (aUbx q k S = 0) := Lib.hid (by unfold aUbx; rw [if_neg (fun y => hk2 y.1)])
    go_enter Try.func35, Try.ntmps35
    go_upto_region 1 with fail
    obtain ⟨W, hW, g0, T0⟩ := twoC_new w (.int .u8 (k : Nat)) (.slice A S.length c) 37
    rw [hW]
    clear hW
    obtain ⟨_, s0, s1, _, _⟩ := T0
    go_wp2_with fail
    go_ret
    rw [hno.out]
    exact ⟨rfl, g0⟩
-- ANSA]
/- The program's dialogue: the map of closures: it is made; one is looked up. -/
theorem amap_under : Try.prog.underlying 69 = some (.map 5 67) := by kernel_rfl
/-- An entry is laid whose key is none of the map's. -/
theorem arun_insert (w : World) (m a : Nat) (es : Array MapEntry) (clk : Nat) (v : Value) (hm : w.heap[m]? = some (.map es clk)) (h : ∀ e ∈ es.toList, ∃ c : Nat, e.key = .int .u8 (c : Nat) ∧ a ≠ c) :
    (Instr.mapUpdate 69 (.map (some m)) (.int .u8 (a : Nat)) v).run Try.prog w = .ok () (Go.ChangeMaps.setBlock w m (.map (es.push { key := .int .u8 (a : Nat), val := v, born := clk }) (clk + 1))) := by
  have hks : ∀ x ∈ es.toList, MapKept.IsKey (.int .u8) x.key := fun x hx => by obtain ⟨c, e, _⟩ := h x hx; rw [e]; exact byte_key c
  rcases MapKept.findNow_spec (byte_key a) es.toList 0 hks with ⟨h1, _⟩ | ⟨j, e, _, h2, h3⟩
  · unfold Instr.mapUpdate
    simp only [Sem.run_bind, run_underlying amap_under, Result.andThen_ok, MapKept.run_getObj_map hm, MapKept.run_checkKey byte_under (byte_key a), MapKept.run_findKey byte_under h1, MapKept.run_setObj_map _ hm]
    rfl
  · exfalso
    obtain ⟨c, e1, e2⟩ := h e (List.mem_of_getElem? h2)
    exact skey_ne e2 (h3.symm.trans e1)
/-- A key that the map has. -/
theorem arun_hit (w : World) (m a : Nat) (es : Array MapEntry) (clk : Nat) (hm : w.heap[m]? = some (.map es clk)) (h : ∀ e ∈ es.toList, ∃ c : Nat, e.key = .int .u8 (c : Nat)) (hx : ∃ e ∈ es.toList, e.key = .int .u8 (a : Nat)) :
    ∃ e ∈ es.toList, e.key = .int .u8 (a : Nat) ∧ (Instr.lookup 69 (.map (some m)) (.int .u8 (a : Nat)) true).run Try.prog w = .ok (.tuple #[e.val, .bool true]) w := by
  have hks : ∀ x ∈ es.toList, MapKept.IsKey (.int .u8) x.key := fun x hx => by obtain ⟨c, e⟩ := h x hx; rw [e]; exact byte_key c
  rcases MapKept.findNow_spec (byte_key a) es.toList 0 hks with ⟨_, h1⟩ | ⟨j, e, h1, h2, h3⟩
  · obtain ⟨e, he, hk⟩ := hx
    exact absurd hk (h1 e he)
  · refine ⟨e, List.mem_of_getElem? h2, h3, ?_⟩
    unfold Instr.lookup
    simp only [Sem.run_bind, run_underlying amap_under, Result.andThen_ok, MapKept.run_getObj_map hm, Sem.run_pure, MapKept.run_checkKey byte_under (byte_key a), MapKept.run_findKey byte_under h1]
    rfl
def ansV (a cb : Nat) : Value := if a = 1 then .func (.func 35) #[] #[.pointer (some ⟨cb, 0, none⟩)] else .func (.func 39) #[] #[.pointer (some ⟨cb, 0, none⟩)]
/-- The map of the two closures over a command's variable in block cb. -/
structure AnsAt (w : World) (m cb : Nat) (q : Cmd) : Prop where
  map : w.heap[m]? = some (.map #[{ key := .int .u8 ((1 : Nat) : Int), val := ansV 1 cb, born := 0 }, { key := .int .u8 ((2 : Nat) : Int), val := ansV 2 cb, born := 1 }] 2)
  lt : cb < w.heap.size
  c2 : w.cell? ⟨cb, 2, none⟩ = some (.int .u8 (q.cls : Nat))
  c3 : w.cell? ⟨cb, 3, none⟩ = some (.int .u8 (q.id : Nat))
theorem AnsAt.grew {w w' : World} {m cb : Nat} {q : Cmd} (h : AnsAt w m cb q) (g : Grew w w') : AnsAt w' m cb q :=
  ⟨(Below.block g m (Array.getElem?_eq_some_iff.1 h.map).1).trans h.map, Nat.lt_of_lt_of_le h.lt g.size, (g.cell (p := ⟨cb, 2, none⟩) h.lt).trans h.c2, (g.cell (p := ⟨cb, 3, none⟩) h.lt).trans h.c3⟩
theorem AnsAt.look {w : World} {m cb a : Nat} {q : Cmd} (h : AnsAt w m cb q) (ha : a = 1 ∨ a = 2) : (Instr.lookup 69 (.map (some m)) (.int .u8 (a : Nat)) true).run Try.prog w = .ok (.tuple #[ansV a cb, .bool true]) w := by
  have h1 : ∀ e ∈ (#[{ key := .int .u8 ((1 : Nat) : Int), val := ansV 1 cb, born := 0 }, { key := .int .u8 ((2 : Nat) : Int), val := ansV 2 cb, born := 1 }] : Array MapEntry).toList, ∃ c : Nat, e.key = .int .u8 (c : Nat) ∧ e.val = ansV c cb := by
    intro e he
    rcases List.mem_cons.1 he with rfl | he
    · exact ⟨1, rfl, rfl⟩
    · rcases List.mem_cons.1 he with rfl | he
      · exact ⟨2, rfl, rfl⟩
      · exact absurd he (by simp)
  have h2 : ∃ e ∈ (#[{ key := .int .u8 ((1 : Nat) : Int), val := ansV 1 cb, born := 0 }, { key := .int .u8 ((2 : Nat) : Int), val := ansV 2 cb, born := 1 }] : Array MapEntry).toList, e.key = .int .u8 (a : Nat) := by
    rcases ha with rfl | rfl
    · exact ⟨_, List.mem_cons_self, rfl⟩
    · exact ⟨_, List.mem_cons_of_mem _ List.mem_cons_self, rfl⟩
  obtain ⟨e, he, hk, hr⟩ := arun_hit w m a _ _ h.map (fun e he => by obtain ⟨c, q, _⟩ := h1 e he; exact ⟨c, q⟩) h2
  obtain ⟨c, q1, q2⟩ := h1 e he
  rw [q1] at hk
  have : c = a := by simp at hk; omega
  subst this
  rw [hr, q2]
theorem AnsAt.look1 {w : World} {m cb : Nat} {q : Cmd} (h : AnsAt w m cb q) : (Instr.lookup 69 (.map (some m)) (.int .u8 1) true).run Try.prog w = .ok (.tuple #[.func (.func 35) #[] #[.pointer (some ⟨cb, 0, none⟩)], .bool true]) w := h.look (a := 1) (.inl rfl)
theorem AnsAt.look2 {w : World} {m cb : Nat} {q : Cmd} (h : AnsAt w m cb q) : (Instr.lookup 69 (.map (some m)) (.int .u8 2) true).run Try.prog w = .ok (.tuple #[.func (.func 39) #[] #[.pointer (some ⟨cb, 0, none⟩)], .bool true]) w := h.look (a := 2) (.inr rfl)
-- [ANSWERS
set_option maxRecDepth 100000 in
set_option maxHeartbeats 4000000 in
theorem prg_answers (q : Cmd) (A : Option Addr) (n c : Nat) (w : World) :
    Calls Try.prog 32 #[.agg #[.slice A n c, .int .u8 (q.wait : Nat), .int .u8 (q.cls : Nat), .int .u8 (q.id : Nat)]] w fun e w' => ∃ m cb, e = .returned (.map (some m)) ∧ AnsAt w' m cb q ∧ Grew w w' := by
  have hmm := @run_makeMap Try.prog
  go_enter Try.func32, Try.ntmps32
  go_upto_region 1 with fail
  obtain ⟨V, hV⟩ : ∃ V, w.alloc (.cells #[.slice A n c, .int .u8 (q.wait : Nat), .int .u8 (q.cls : Nat), .int .u8 (q.id : Nat)] 28) = V := ⟨_, rfl⟩
  have lp : w.heap.size < V.heap.size := by rw [← hV]; simp
  have v2 : V.cell? ⟨w.heap.size, 2, none⟩ = some (.int .u8 (q.cls : Nat)) := by rw [← hV]; simp [go_sem]
  have v3 : V.cell? ⟨w.heap.size, 3, none⟩ = some (.int .u8 (q.id : Nat)) := by rw [← hV]; simp [go_sem]
  have gV : Grew w V := by rw [← hV]; exact (Grew.refl w).alloc _
  rw [hV]
  clear hV
  have GV := Lib.hid gV
  have HC := Lib.hid (show V.cell? ⟨w.heap.size, 2, none⟩ = some (.int .u8 (q.cls : Nat)) ∧ V.cell? ⟨w.heap.size, 3, none⟩ = some (.int .u8 (q.id : Nat)) ∧ w.heap.size < V.heap.size from ⟨v2, v3, lp⟩)
  clear v2 v3 lp gV
  generalize w.heap.size = cb at *
  have hm0 : (V.alloc (.map #[] 0)).heap[V.heap.size]? = some (.map #[] 0) := heap_alloc_new V _
  obtain ⟨V2, hV2⟩ : ∃ V2, Go.ChangeMaps.setBlock (V.alloc (.map #[] 0)) V.heap.size (.map (#[].push { key := .int .u8 ((1 : Nat) : Int), val := ansV 1 cb, born := 0 }) (0 + 1)) = V2 := ⟨_, rfl⟩
  have i1 : (Instr.mapUpdate 69 (.map (some V.heap.size)) (.int .u8 1) (.func (.func 35) #[] #[.pointer (some ⟨cb, 0, none⟩)])).run Try.prog (V.alloc (.map #[] 0)) = .ok () V2 := by
    rw [← hV2]
    exact arun_insert (V.alloc (.map #[] 0)) V.heap.size 1 #[] 0 (ansV 1 cb) hm0 (fun e he => by simp at he)
  have hm2 : V2.heap[V.heap.size]? = some (.map #[{ key := .int .u8 ((1 : Nat) : Int), val := ansV 1 cb, born := 0 }] 1) := by rw [← hV2]; exact Go.ChangeMaps.heap_setBlock_same hm0 _
  have g2 : Grew V V2 := by
    have hg : (V.alloc (.map #[] 0)).grownBy V2 (some V.heap.size) := by
      rw [← hV2]
      exact ⟨rfl, rfl, rfl, by simp [Go.ChangeMaps.setBlock], fun i _ hi => Go.ChangeMaps.heap_setBlock_other hm0 _ (fun e => hi (by rw [e]))⟩
    exact Below.grown ((Grew.refl V).alloc _) hg ((Grew.refl V).alloc _).size (fun b hb => by simp at hb; omega)
  obtain ⟨V3, hV3⟩ : ∃ V3, Go.ChangeMaps.setBlock V2 V.heap.size (.map (#[{ key := .int .u8 ((1 : Nat) : Int), val := ansV 1 cb, born := 0 }].push { key := .int .u8 ((2 : Nat) : Int), val := ansV 2 cb, born := 1 }) (1 + 1)) = V3 := ⟨_, rfl⟩
  have i2 : (Instr.mapUpdate 69 (.map (some V.heap.size)) (.int .u8 2) (.func (.func 39) #[] #[.pointer (some ⟨cb, 0, none⟩)])).run Try.prog V2 = .ok () V3 := by
    rw [← hV3]
    exact arun_insert V2 V.heap.size 2 _ 1 (ansV 2 cb) hm2 (fun e he => by simp at he; subst he; exact ⟨1, rfl, by decide⟩)
  have hm3 : V3.heap[V.heap.size]? = some (.map #[{ key := .int .u8 ((1 : Nat) : Int), val := ansV 1 cb, born := 0 }, { key := .int .u8 ((2 : Nat) : Int), val := ansV 2 cb, born := 1 }] 2) := by rw [← hV3]; exact Go.ChangeMaps.heap_setBlock_same hm2 _
  have g3 : Grew V V3 := by
    have hg : V2.grownBy V3 (some V.heap.size) := by
      rw [← hV3]
      exact ⟨rfl, rfl, rfl, by simp [Go.ChangeMaps.setBlock], fun i _ hi => Go.ChangeMaps.heap_setBlock_other hm2 _ (fun e => hi (by rw [e]))⟩
    exact Below.grown g2 hg g2.size (fun b hb => by simp at hb; omega)
  have HG := Lib.hid g3
  have HM := Lib.hid hm3
  clear hm0 hm2 hm3 g2 g3 hV2 hV3
  go_wp2_with fail
  go_ret
  exact ⟨V.heap.size, cb, rfl, ⟨HM.out, Nat.lt_of_lt_of_le HC.out.2.2 HG.out.size, (HG.out.cell (p := ⟨cb, 2, none⟩) HC.out.2.2).trans HC.out.1, (HG.out.cell (p := ⟨cb, 3, none⟩) HC.out.2.2).trans HC.out.2.1⟩, GV.out.trans HG.out⟩
-- ANSWERS]
end Go.Proofs.Ytcdmbnbanopioaa
