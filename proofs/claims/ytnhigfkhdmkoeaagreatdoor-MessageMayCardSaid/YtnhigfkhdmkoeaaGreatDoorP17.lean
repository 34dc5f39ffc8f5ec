/-
  Messages: Of of message: the region that asks a kind whether a content tells a second.
  Messages: the program's Of, where the frame is one of the kinds.
  Messages: the program's Of of UBX and SiRF frames, kind by kind.
  Messages: the program's Of of UBX and SiRF frames, one kind after the other.
  Messages: the program's Of of a sentence.
  Messages: the program's Of of any frame.
-/
import Derived.Test.YtnhigfkhdmkoeaaGreatDoorP05
import Derived.Test.YtnhigfkhdmkoeaaGreatDoorP15
import Derived.Test.YtnhigfkhdmkoeaaGreatDoorP16
import Derived.Test.YtnhigfkhdmkoeaaGreatDoorP10

namespace Go.Proofs.YtnhigfkhdmkoeaaGreatDoor
open Go.RowKit
set_option linter.unusedVariables false

section
variable {P : Program} {ops : Array Oper} {rest : List Oper} {o : Oper} {a : Act} {w : World} {Q : Exit → Act → World → Prop}
/-- One operation that is wanted and leaves a value. -/
theorem wl_value (hw : Region.wanted o (yielded ops a.tmps) = true) (v : Value) (h : (execOp a.eval o).run P w = .ok (.value v) w) (k : wpList P ops Q rest (a.put o.dst v) w) : wpList P ops Q (o :: rest) a w :=
  wpList_step fun K hK => by
    rw [if_pos hw]
    unfold Oper.wp
    rw [h]
    exact hK _ _ k
/-- One operation that is wanted and calls. -/
theorem wl_call (hw : Region.wanted o (yielded ops a.tmps) = true) (f : FuncId) (args : Array Value) (v : Value) (h : (execOp a.eval o).run P w = .ok (.enter f args) w) (hc : Calls P f args w fun e w' => e = .returned v ∧ Grew w w') (k : ∀ w', Grew w w' → wpList P ops Q rest (a.put o.dst v) w') : wpList P ops Q (o :: rest) a w :=
  wpList_step fun K hK => by
    rw [if_pos hw]
    unfold Oper.wp
    rw [h, Oper.upon_enter]
    refine hc.mono ?_
    rintro e w' ⟨rfl, g⟩
    exact hK _ _ (k w' g)
end
noncomputable def mo5Code : Code := (Tryz.f6.body.bind (regCode 5)).getD .skip
set_option maxRecDepth 1000000 in
set_option maxHeartbeats 8000000 in
theorem mo5_asks (cb p gH : Nat) (hb : Bool) (C K : Array Value) (W : World) (hcs : C.size = 26) (h5 : W.heap[cb]? = some (.cells C 44)) (h7 : W.heap[p]? = some (.cells K 50)) (hK3 : K[3]? = some (.func (.func gH) #[] #[])) (eH : ∀ args w, (callFunc gH args).run Tryz.prog w = .ok (.enter gH args) w)
    (HH : Calls Tryz.prog gH #[.agg C] W fun e w' => e = .returned (.bool hb) ∧ Grew W w') (K0 : Act → World → Prop) (t0 t1 t2 t3 t4 t8 t9 t10 t11 t12 t13 t14 t15 t16 t17 t18 t19 t20 t21 t22 t23 t24 t25 t26 t27 t28 t29 t30 t31 t32 t33 t34 t35 t36 t37 t38 t39 t40 t41 t42 t43 t44 t45 t46 t47 t48 t49 t50 t51 t52 t53 : Value)
    (post : ∀ (w' : World) (s24 s25 s26 s27 s28 s29 s30 s31 : Value), Grew W w' → K0 ⟨#[t0, t1, t2, t3, t4, .pointer (some ⟨cb, 0, none⟩), .bool true, .pointer (some ⟨p, 0, none⟩), t8, t9, t10, t11, t12, t13, t14, t15, t16, t17, t18, t19, t20, t21, t22, t23, s24, s25, s26, s27, s28, s29, s30, s31, .bool (!hb), t33, t34, t35, t36, t37, t38, t39, t40, t41, t42, t43, t44, t45, t46, t47, t48, t49, t50, t51, t52, t53], []⟩ w') :
    Code.wp Tryz.prog mo5Code (Exit.then K0 fun _ _ _ => False) ⟨#[t0, t1, t2, t3, t4, .pointer (some ⟨cb, 0, none⟩), .bool true, .pointer (some ⟨p, 0, none⟩), t8, t9, t10, t11, t12, t13, t14, t15, t16, t17, t18, t19, t20, t21, t22, t23, t24, t25, t26, t27, t28, t29, t30, t31, t32, t33, t34, t35, t36, t37, t38, t39, t40, t41, t42, t43, t44, t45, t46, t47, t48, t49, t50, t51, t52, t53], []⟩ W := by
  conv => arg 2; whnf
  have q3 : W.cell? ⟨p, 3, none⟩ = some (.func (.func gH) #[] #[]) := by rw [cell_of_row W p 3 _ _ _ h7]; exact hK3
  have hI : (Tryz.prog.info? 44).map (·.size) = some C.size := by rw [cont_zero.2, hcs]
  refine wp_region_list ?_
  refine wl_value (by kernel_rfl) (.bool true) (by kernel_rfl) ?_
  change wpList _ _ _ _ ⟨#[t0, t1, t2, t3, t4, .pointer (some ⟨cb, 0, none⟩), .bool true, .pointer (some ⟨p, 0, none⟩), t8, t9, t10, t11, t12, t13, t14, t15, t16, t17, t18, t19, t20, t21, t22, t23, .bool true, t25, t26, t27, t28, t29, t30, t31, t32, t33, t34, t35, t36, t37, t38, t39, t40, t41, t42, t43, t44, t45, t46, t47, t48, t49, t50, t51, t52, t53], []⟩ W
  refine wl_value (by kernel_rfl) (.bool false) (by kernel_rfl) ?_
  change wpList _ _ _ _ ⟨#[t0, t1, t2, t3, t4, .pointer (some ⟨cb, 0, none⟩), .bool true, .pointer (some ⟨p, 0, none⟩), t8, t9, t10, t11, t12, t13, t14, t15, t16, t17, t18, t19, t20, t21, t22, t23, .bool true, .bool false, t26, t27, t28, t29, t30, t31, t32, t33, t34, t35, t36, t37, t38, t39, t40, t41, t42, t43, t44, t45, t46, t47, t48, t49, t50, t51, t52, t53], []⟩ W
  refine wl_value (by kernel_rfl) (.bool false) (by kernel_rfl) ?_
  change wpList _ _ _ _ ⟨#[t0, t1, t2, t3, t4, .pointer (some ⟨cb, 0, none⟩), .bool true, .pointer (some ⟨p, 0, none⟩), t8, t9, t10, t11, t12, t13, t14, t15, t16, t17, t18, t19, t20, t21, t22, t23, .bool true, .bool false, .bool false, t27, t28, t29, t30, t31, t32, t33, t34, t35, t36, t37, t38, t39, t40, t41, t42, t43, t44, t45, t46, t47, t48, t49, t50, t51, t52, t53], []⟩ W
  refine wl_value (by kernel_rfl) (.pointer (some ⟨p, 3, none⟩)) (by kernel_rfl) ?_
  change wpList _ _ _ _ ⟨#[t0, t1, t2, t3, t4, .pointer (some ⟨cb, 0, none⟩), .bool true, .pointer (some ⟨p, 0, none⟩), t8, t9, t10, t11, t12, t13, t14, t15, t16, t17, t18, t19, t20, t21, t22, t23, .bool true, .bool false, .bool false, .pointer (some ⟨p, 3, none⟩), t28, t29, t30, t31, t32, t33, t34, t35, t36, t37, t38, t39, t40, t41, t42, t43, t44, t45, t46, t47, t48, t49, t50, t51, t52, t53], []⟩ W
  refine wl_value (by kernel_rfl) (.func (.func gH) #[] #[]) (by simp [execOp, go_sem, q3]) ?_
  change wpList _ _ _ _ ⟨#[t0, t1, t2, t3, t4, .pointer (some ⟨cb, 0, none⟩), .bool true, .pointer (some ⟨p, 0, none⟩), t8, t9, t10, t11, t12, t13, t14, t15, t16, t17, t18, t19, t20, t21, t22, t23, .bool true, .bool false, .bool false, .pointer (some ⟨p, 3, none⟩), .func (.func gH) #[] #[], t29, t30, t31, t32, t33, t34, t35, t36, t37, t38, t39, t40, t41, t42, t43, t44, t45, t46, t47, t48, t49, t50, t51, t52, t53], []⟩ W
  refine wl_value (by kernel_rfl) (.agg C) (exec_load_whole 44 _ rfl cb (by kernel_rfl) C _ _ h5 Tryz.underlying44 rfl hI) ?_
  change wpList _ _ _ _ ⟨#[t0, t1, t2, t3, t4, .pointer (some ⟨cb, 0, none⟩), .bool true, .pointer (some ⟨p, 0, none⟩), t8, t9, t10, t11, t12, t13, t14, t15, t16, t17, t18, t19, t20, t21, t22, t23, .bool true, .bool false, .bool false, .pointer (some ⟨p, 3, none⟩), .func (.func gH) #[] #[], .agg C, t30, t31, t32, t33, t34, t35, t36, t37, t38, t39, t40, t41, t42, t43, t44, t45, t46, t47, t48, t49, t50, t51, t52, t53], []⟩ W
  refine wl_call (by kernel_rfl) gH #[.agg C] (.bool hb) (Eq.trans (by kernel_rfl) (eH #[.agg C] W)) HH fun w' g => ?_
  change wpList _ _ _ _ ⟨#[t0, t1, t2, t3, t4, .pointer (some ⟨cb, 0, none⟩), .bool true, .pointer (some ⟨p, 0, none⟩), t8, t9, t10, t11, t12, t13, t14, t15, t16, t17, t18, t19, t20, t21, t22, t23, .bool true, .bool false, .bool false, .pointer (some ⟨p, 3, none⟩), .func (.func gH) #[] #[], .agg C, .bool hb, t31, t32, t33, t34, t35, t36, t37, t38, t39, t40, t41, t42, t43, t44, t45, t46, t47, t48, t49, t50, t51, t52, t53], []⟩ w'
  refine wl_value (by kernel_rfl) (.bool (!hb)) (by kernel_rfl) ?_
  change wpList _ _ _ _ ⟨#[t0, t1, t2, t3, t4, .pointer (some ⟨cb, 0, none⟩), .bool true, .pointer (some ⟨p, 0, none⟩), t8, t9, t10, t11, t12, t13, t14, t15, t16, t17, t18, t19, t20, t21, t22, t23, .bool true, .bool false, .bool false, .pointer (some ⟨p, 3, none⟩), .func (.func gH) #[] #[], .agg C, .bool hb, .bool (!hb), t32, t33, t34, t35, t36, t37, t38, t39, t40, t41, t42, t43, t44, t45, t46, t47, t48, t49, t50, t51, t52, t53], []⟩ w'
  refine wl_value (by kernel_rfl) (.bool (!hb)) (by kernel_rfl) ?_
  change wpList _ _ _ _ ⟨#[t0, t1, t2, t3, t4, .pointer (some ⟨cb, 0, none⟩), .bool true, .pointer (some ⟨p, 0, none⟩), t8, t9, t10, t11, t12, t13, t14, t15, t16, t17, t18, t19, t20, t21, t22, t23, .bool true, .bool false, .bool false, .pointer (some ⟨p, 3, none⟩), .func (.func gH) #[] #[], .agg C, .bool hb, .bool (!hb), .bool (!hb), t33, t34, t35, t36, t37, t38, t39, t40, t41, t42, t43, t44, t45, t46, t47, t48, t49, t50, t51, t52, t53], []⟩ w'
  exact post w' _ _ _ _ _ _ _ _ g
end Go.Proofs.YtnhigfkhdmkoeaaGreatDoor

namespace Go.Proofs.YtnhigfkhdmkoeaaGreatDoor
open Go.RowKit
set_option linter.unusedVariables false

-- [ROW
set_option maxRecDepth 1000000 in
set_option maxHeartbeats 8000000 in
theorem msg_Of_row (k : MRow) (hk : k ∈ mRows) (CP : World → Array Value → Prop) (x : Nat) (v : Value) (w : World) (hv : ∃ A n m, v = .slice A n m) (HR : ∀ w', Grew w w' → ReadsAs k.a k.b k.c true CP (.agg #[.int .u8 (x : Nat), v]) w')
    (hCP : ∀ w w' C, CP w C → Grew w w' → CP w' C) (hb : Bool) (r0 : Option Mg) (ht : Tab w)
    (eH : ∀ args w, (callFunc k.holds args).run Tryz.prog w = .ok (.enter k.holds args) w) (eS : ∀ args w, (callFunc k.second args).run Tryz.prog w = .ok (.enter k.second args) w)
    (HH : ∀ w C, CP w C → Calls Tryz.prog k.holds #[.agg C] w fun e w' => e = .returned (.bool hb) ∧ Grew w w')
    (HS : hb = true → ∀ w C, CP w C → Tab w → Calls Tryz.prog k.second #[.agg C] w fun e w' => e = .returned (mgAns r0) ∧ Grew w w') :
    Calls Tryz.prog 6 #[.agg #[.int .u8 (x : Nat), v]] w fun e w' => e = .returned (mgAns (if hb then withM k.num k.cyc k.nx r0 else none)) ∧ Grew w w' := by
  obtain ⟨A, n, m, rfl⟩ := hv
  have HL0 := fun w v h => mkinds_hit w v h k hk
  obtain ⟨at_, a, b, c, num, cyc, nx, gH, gS⟩ := k
  simp only at HR HH HS HL0 eH eS
  unfold MRow.val at HL0
  simp only at HL0
  unfold ReadsAs at HR
  obtain ⟨K, hK⟩ : ∃ K : Array Value, #[.int .u8 (num : Nat), .int .i64 (cyc : Nat), .bool nx, .func (.func gH) #[] #[], .func (.func gS) #[] #[]] = K := ⟨_, rfl⟩
  have hK0 : K[0]? = some (.int .u8 (num : Nat)) ∧ K[1]? = some (.int .i64 (cyc : Nat)) ∧ K[2]? = some (.bool nx) := by rw [← hK]; exact ⟨rfl, rfl, rfl⟩
  have hK3 : K[3]? = some (.func (.func gH) #[] #[]) := by rw [← hK]; rfl
  have hK4 : K[4]? = some (.func (.func gS) #[] #[]) := by rw [← hK]; rfl
  have hKs : Hid (kindZ.size = K.size) := Lib.hid (by rw [← hK]; rfl)
  have hKi : Hid ((Tryz.prog.info? 50).map (·.size) = some K.size) := Lib.hid (by rw [kind_size.out, ← hK]; rfl)
  have hKo : Hid (K.all (·.oneCell') = true) := Lib.hid (by rw [← hK]; kernel_rfl)
  rw [hK] at HL0
  have HL : Hid (∀ w v, MKindsAt w v → (Instr.lookup 52 v (.agg (keyC a b c)) true).run Tryz.prog w = .ok (.tuple #[.agg K, .bool true]) w) := Lib.hid HL0
  clear HL0 hK hk
  replace HH := Lib.hid HH
  replace HS := Lib.hid HS
  have HT := Lib.hid ht
  clear ht
  have hCP2 := Lib.hid hCP
  obtain ⟨R, hR⟩ : ∃ R, mgAns (if hb then withM num cyc nx r0 else none) = R := ⟨_, rfl⟩
  rw [hR]
  replace hR := Lib.hid hR
  have HI := Lib.hid cont_zero.2
  have HZ := Lib.hid cont_zero.1
  obtain ⟨Z, hz⟩ : ∃ Z, (Told.cells {}).push (.slice none 0 0) = Z := ⟨_, rfl⟩
  have hZs : Hid (Z.size = 26) := Lib.hid (by rw [← hz]; rfl)
  rw [hz] at HZ
  clear hz
  replace HR := Lib.hid HR
  go_enter Tryz.func6, Tryz.ntmps6
  go_upto_region 1 with fail
  obtain ⟨W, hW, g0, sW, T0, x6, f6⟩ := of_begin w (.int .u8 (x : Nat)) (.slice A n m) 24 27
  rw [hW]
  clear hW
  obtain ⟨_, s0, s1, _, _⟩ := T0
  go_upto_region 4 with (first | (go_at_call 9; refine (HR.out _ g0).mono ?_; rintro e w1 ⟨C, rfl, hcs, hco, hcp, g1⟩) | (refine wpList_alloc_as rfl 44 rfl Z HZ.out ?_) | (refine wpList_store_at rfl 44 _ _ rfl (w1.heap.size + 1) C Z 44 (of_z w1 a b c Z _ _) rfl rfl (by rw [HI.out, hcs]) (by rw [hZs.out, hcs]) hco ?_))
  obtain ⟨V, hV, gV, sV, v4, v5⟩ := of_vars w1 a b c C Z 38 44
  rw [hV]
  have H4 := Lib.hid v4
  have H5 := Lib.hid v5
  have X6 := Lib.hid (x6.grew (g1.trans gV))
  have F6 := Lib.hid (f6.grew x6.1 (g1.trans gV))
  have G := Lib.hid (g0.trans (g1.trans gV))
  have hcp2 := Lib.hid (hCP _ _ _ hcp gV)
  have hlw : w.heap.size + 2 ≤ w1.heap.size := by have := g1.size; omega
  clear hV v4 v5 s0 s1 g0 x6 f6 hcp g1 gV
  go_cut [2, 5, 6, 7] (fun r q s t wx => r = .pointer (some ⟨w.heap.size + 1, 0, none⟩) ∧ q = .pointer (some ⟨w1.heap.size + 1, 0, none⟩) ∧ s = .bool true ∧ ∃ p, t = .pointer (some ⟨p, 0, none⟩) ∧ V.heap.size ≤ p ∧ Hid (wx.heap[p]? = some (.cells K 50)) ∧ Hid (Grew V wx))
  case first =>
    refine wp_thenS (mof_look w1.heap.size a b c K true V H4 HL hKi hKs hKo _ _ _ _ _ _ _ _ _ _ _ _ _ _ _ _ _ _ _ _ _ _ _ _ _ _ _ _ _ _ _ _ _ _ _ _ _ _ _ _ _ _ _ _ _ _ _ _ _ _ _ _ _ _ (fun p wx s18 s19 s20 s21 s22 s23 hp h7 hg => ?_))
    go_wp2_with fail
    go_meet
    case rel => exact ⟨rfl, rfl, rfl, p, rfl, hp, Lib.hid h7, Lib.hid hg⟩
  case rest =>
    obtain ⟨rfl, rfl, rfl, p, rfl, hp, h7, hg⟩ := hcut
    obtain ⟨V2, hV2⟩ : ∃ y, y = wc := ⟨_, rfl⟩
    subst hV2
    have q3 : V2.cell? ⟨p, 3, none⟩ = some (.func (.func gH) #[] #[]) := by rw [cell_of_row V2 p 3 _ _ _ h7.out]; exact hK3
    have q5 := (Below.block hg.out (w1.heap.size + 1) (by omega)).trans H5.out
    have hcpB := hCP2.out _ _ _ hcp2.out hg.out
    have hlp : p < V2.heap.size := (Array.getElem?_eq_some_iff.1 h7.out).1
    have HHV := HH.out V2 C hcpB
    go_upto_region 5 with fail
    go_cut [2, 5, 7, 32] (fun r q s t wx => r = .pointer (some ⟨w.heap.size + 1, 0, none⟩) ∧ q = .pointer (some ⟨w1.heap.size + 1, 0, none⟩) ∧ s = .pointer (some ⟨p, 0, none⟩) ∧ t = .bool (!hb) ∧ Hid (Grew V2 wx))
    case first =>
      refine wp_thenS (mo5_asks (w1.heap.size + 1) p gH hb C K V2 hcs q5 h7.out hK3 eH HHV _ _ _ _ _ _ _ _ _ _ _ _ _ _ _ _ _ _ _ _ _ _ _ _ _ _ _ _ _ _ _ _ _ _ _ _ _ _ _ _ _ _ _ _ _ _ _ _ _ _ _ _ (fun wx s24 s25 s26 s27 s28 s29 s30 s31 g3 => ?_))
      go_wp2_with fail
      go_meet
      case rel => exact ⟨rfl, rfl, rfl, rfl, Lib.hid g3⟩
    case rest =>
    obtain ⟨rfl, rfl, rfl, rfl, hg3⟩ := hcut
    obtain ⟨w3, hw3⟩ : ∃ y, y = wc := ⟨_, rfl⟩
    subst hw3
    have g3 := hg3.out
    clear hg3
    have q4 := (g3.cell (p := ⟨p, 4, none⟩) hlp).trans (show V2.cell? ⟨p, 4, none⟩ = some (.func (.func gS) #[] #[]) by rw [cell_of_row V2 p 4 _ _ _ h7.out]; exact hK4)
    replace q5 := (Below.block g3 (w1.heap.size + 1) (Array.getElem?_eq_some_iff.1 q5).1).trans q5
    clear q3 HHV HH
    cases hb with
    | false =>
      have hR1 : Hid (R = .tuple #[.agg #[.int .u8 0, .bool false, .int .i64 0, .bool false, .int .i64 0, .bool false], .bool false]) := Lib.hid (by rw [← hR.out]; rfl)
      clear hR
      go_upto_region 6 with fail
      obtain ⟨x0, c0, c1, c2, c3, c4, c5⟩ := X6.out.grew (hg.out.trans g3)
      obtain ⟨f0, f1, f2, f3, f4, f5⟩ := F6.out.grew X6.out.1 (hg.out.trans g3)
      go_wp2_with fail
      refine bodyPost_ret (by simp [results, Tryz.results6, go_sem, c0, c1, c2, c3, c4, c5]; try rfl) rfl ?_
      refine ⟨congrArg Ending.returned hR1.out.symm, ?_⟩
      exact six_put (w.heap.size + 1) (G.out.trans (hg.out.trans g3)) (Nat.le_succ _) _ _ _ _ _ _
    | true =>
      have HS2 := HS.out rfl
      cases r0 with
      | none =>
        have hR1 : Hid (R = .tuple #[.agg #[.int .u8 0, .bool false, .int .i64 0, .bool false, .int .i64 0, .bool false], .bool false]) := Lib.hid (by rw [← hR.out]; rfl)
        clear hR
        rw [show mgAns none = .tuple #[.agg #[.int .u8 0, .bool false, .int .i64 0, .bool false, .int .i64 0, .bool false], .bool false] from rfl] at HS2
        replace HS2 := Lib.hid HS2
        clear HS
        go_upto_region 9 with (first | ((with_reducible refine (HS2.out _ _ (hCP2.out _ _ _ hcpB g3) (HT.out.grew (G.out.trans (hg.out.trans g3)))).mono ?_); rintro e w4 ⟨rfl, g4⟩) | (refine wpList_load_whole rfl 44 _ rfl (w1.heap.size + 1) rfl C 44 _ q5 Tryz.underlying44 rfl (by rw [HI.out, hcs]) ?_))
        have gA := (Grew.refl w4).alloc (.cells #[.int .u8 0, .bool false, .int .i64 0, .bool false, .int .i64 0, .bool false] 27)
        have gB := hg.out.trans (g3.trans (g4.trans gA))
        obtain ⟨x0, c0, c1, c2, c3, c4, c5⟩ := X6.out.grew gB
        obtain ⟨f0, f1, f2, f3, f4, f5⟩ := F6.out.grew X6.out.1 gB
        clear X6 F6
        go_wp2_with fail
        refine bodyPost_ret (by simp [results, Tryz.results6, go_sem, c0, c1, c2, c3, c4, c5]; try rfl) rfl ?_
        exact ⟨by rw [hR1.out], six_put _ (G.out.trans gB) (by omega) _ _ _ _ _ _⟩
      | some m0 =>
        have hR2 : Hid (R = .tuple #[.agg #[.int .u8 (num : Nat), .bool m0.utc, .int .i64 m0.sec, .bool m0.leap, .int .i64 (cyc : Nat), .bool nx], .bool true]) := Lib.hid (by rw [← hR.out]; rfl)
        rw [show mgAns (some m0) = .tuple #[.agg #[.int .u8 (m0.kind : Nat), .bool m0.utc, .int .i64 m0.sec, .bool m0.leap, .int .i64 (m0.cycle : Nat), .bool m0.next], .bool true] from rfl] at HS2
        replace HS2 := Lib.hid HS2
        clear HS
        go_upto_region 10 with (first | ((with_reducible refine (HS2.out _ _ (hCP2.out _ _ _ hcpB g3) (HT.out.grew (G.out.trans (hg.out.trans g3)))).mono ?_); rintro e w4 ⟨rfl, g4⟩) | (refine wpList_load_whole rfl 44 _ rfl (w1.heap.size + 1) rfl C 44 _ q5 Tryz.underlying44 rfl (by rw [HI.out, hcs]) ?_))
        obtain ⟨V5, hV5, gA, sA, cA⟩ := newO w4 (.cells m0.cells 27)
        unfold Mg.cells at hV5
        rw [hV5]
        clear hV5
        have gB := Lib.hid (hg.out.trans (g3.trans (g4.trans gA)))
        have h7b : Hid (V5.heap[p]? = some (.cells K 50)) := Lib.hid ((Below.block (g3.trans (g4.trans gA)) p hlp).trans h7.out)
        have hl4 : V2.heap.size ≤ w4.heap.size := (g3.trans g4).size
        have X8 := Lib.hid (X6.out.grew gB.out)
        have F8 := Lib.hid (F6.out.grew X6.out.1 gB.out)
        have hVs := gB.out.size
        have hv2s := hg.out.size
        have l6 := X8.out.1
        clear X6 F6 q4 q5
        go_cut [2, 8] (fun r s wx => r = .pointer (some ⟨w.heap.size + 1, 0, none⟩) ∧ s = .pointer (some ⟨w4.heap.size, 0, none⟩) ∧ Hid (Far (fun k => k = w4.heap.size) V5 wx) ∧ Hid (wx.heap[w4.heap.size]? = some (.cells (mgMk num cyc nx m0 true true true) 27)))
        case first =>
          refine wp_thenS (mot_lay p w4.heap.size num cyc nx m0 V5 K h7b hK0 (by omega) cA _ _ _ _ _ _ _ _ _ _ _ _ _ _ _ _ _ _ _ _ _ _ _ _ _ _ _ _ _ _ _ _ _ _ _ _ _ _ _ _ _ _ _ _ _ _ _ _ _ _ _ _ _ (fun wx s44 s45 s46 s47 s48 s49 s50 s51 s52 hF h8 => ?_))
          go_wp2_with fail
          go_meet
          case rel => exact ⟨rfl, rfl, Lib.hid hF, Lib.hid h8⟩
        case rest =>
          obtain ⟨rfl, rfl, hF, h8⟩ := hcut
          obtain ⟨V6, hV6⟩ : ∃ y, y = wc := ⟨_, rfl⟩
          subst hV6
          have gC : Grew w V6 := Far.grew hF.out (G.out.trans gB.out) (fun k hk => by subst hk; omega)
          obtain ⟨x0, c0, c1, c2, c3, c4, c5⟩ := X8.out
          obtain ⟨f0, f1, f2, f3, f4, f5⟩ := F8.out
          replace c0 := (hF.out.cell (p := ⟨w.heap.size + 1, 0, none⟩) l6 (by simp; omega)).trans c0
          replace c1 := (hF.out.cell (p := ⟨w.heap.size + 1, 1, none⟩) l6 (by simp; omega)).trans c1
          replace c2 := (hF.out.cell (p := ⟨w.heap.size + 1, 2, none⟩) l6 (by simp; omega)).trans c2
          replace c3 := (hF.out.cell (p := ⟨w.heap.size + 1, 3, none⟩) l6 (by simp; omega)).trans c3
          replace c4 := (hF.out.cell (p := ⟨w.heap.size + 1, 4, none⟩) l6 (by simp; omega)).trans c4
          replace c5 := (hF.out.cell (p := ⟨w.heap.size + 1, 5, none⟩) l6 (by simp; omega)).trans c5
          replace f0 := (hF.out.frozen (p := ⟨w.heap.size + 1, 0, none⟩) l6 (by simp; omega)).trans f0
          replace f1 := (hF.out.frozen (p := ⟨w.heap.size + 1, 1, none⟩) l6 (by simp; omega)).trans f1
          replace f2 := (hF.out.frozen (p := ⟨w.heap.size + 1, 2, none⟩) l6 (by simp; omega)).trans f2
          replace f3 := (hF.out.frozen (p := ⟨w.heap.size + 1, 3, none⟩) l6 (by simp; omega)).trans f3
          replace f4 := (hF.out.frozen (p := ⟨w.heap.size + 1, 4, none⟩) l6 (by simp; omega)).trans f4
          replace f5 := (hF.out.frozen (p := ⟨w.heap.size + 1, 5, none⟩) l6 (by simp; omega)).trans f5
          have e0 := cell_of_row V6 w4.heap.size 0 _ _ _ h8.out
          have e1 := cell_of_row V6 w4.heap.size 1 _ _ _ h8.out
          have e2 := cell_of_row V6 w4.heap.size 2 _ _ _ h8.out
          have e3 := cell_of_row V6 w4.heap.size 3 _ _ _ h8.out
          have e4 := cell_of_row V6 w4.heap.size 4 _ _ _ h8.out
          have e5 := cell_of_row V6 w4.heap.size 5 _ _ _ h8.out
          simp [mgMk] at e0 e1 e2 e3 e4 e5
          clear X8 F8 x0
          go_wp2_with fail
          refine bodyPost_ret (by simp [results, Tryz.results6, go_sem, c0, c1, c2, c3, c4, c5]; try rfl) rfl ?_
          exact ⟨by rw [hR2.out], six_put _ gC (by omega) _ _ _ _ _ _⟩
-- ROW]
end Go.Proofs.YtnhigfkhdmkoeaaGreatDoor

namespace Go.Proofs.YtnhigfkhdmkoeaaGreatDoor
open Go.RowKit
set_option linter.unusedVariables false

theorem readsAs_values {a b c er : Nat} {zs : List Int} {fr : Value} {w : World} (h : Calls Tryz.prog 9 #[fr] w (ReadV a b c er zs w)) (ok : Bool) (hok : ((er : Int) == 0) = ok) :
    ReadsAs a b c ok (fun w C => ValC w C zs) fr w := by
  refine h.mono ?_
  rintro e w' ⟨A, sn, sc, rfl, hr, g⟩
  exact ⟨_, by rw [hok]; rfl, rfl, cont_one {} A sn sc, ⟨_, rfl, hr⟩, g⟩
theorem row_form {w : World} {v : Value} {S : List Nat} (h : Row .u8 w v S) : ∃ A n m, v = .slice A n m := by
  obtain ⟨A, c, rfl, _⟩ := h
  exact ⟨_, _, _, rfl⟩
/-- A frame of values that is one of the kinds. -/
theorem of_values (k : MRow) (hk : k ∈ mRows) (x : Nat) (v : Value) (S : List Nat) (w : World) (hr : Row .u8 w v S) (zs : List Int) (HR : ∀ w', Grew w w' → Calls Tryz.prog 9 #[.agg #[.int .u8 (x : Nat), v]] w' (ReadV k.a k.b k.c 0 zs w'))
    (cond : Prop) [Decidable cond] (r : Option Mg) (ht : Tab w)
    (eH : ∀ args w, (callFunc k.holds args).run Tryz.prog w = .ok (.enter k.holds args) w) (eS : ∀ args w, (callFunc k.second args).run Tryz.prog w = .ok (.enter k.second args) w)
    (HH : ∀ w C, ValC w C zs → Calls Tryz.prog k.holds #[.agg C] w fun e w' => e = .returned (.bool (decide cond)) ∧ Grew w w')
    (HS : ∀ w C, ValC w C zs → Tab w → Calls Tryz.prog k.second #[.agg C] w fun e w' => e = .returned (mgAns r) ∧ Grew w w') :
    Calls Tryz.prog 6 #[.agg #[.int .u8 (x : Nat), v]] w fun e w' => e = .returned (mgAns (if cond then withM k.num k.cyc k.nx r else none)) ∧ Grew w w' := by
  have h := msg_Of_row k hk (fun w C => ValC w C zs) x v w (row_form hr) (fun w' g => readsAs_values (HR w' g) true rfl) (fun w w' C h g => h.grew g) (decide cond) r ht eH eS HH (fun _ => HS)
  refine h.mono ?_
  rintro e w' ⟨rfl, g⟩
  refine ⟨?_, g⟩
  by_cases q : cond
  · rw [if_pos q, decide_eq_true q]; rfl
  · rw [if_neg q, decide_eq_false q]; rfl
/-- What was read fits. -/
theorem ubx_fits {c : Nat} {S : List Nat} (hB : Bytes S) {zs : List Int} (h : ubxDec c S = (zs, 0)) : zs.length = (ubxLay c).2.length / 2 ∧ fitsTo (ubxLay c).2 zs ((ubxLay c).2.length / 2) = true := by
  unfold ubxDec at h
  split at h
  · simp at h
  · split at h
    · simp at h
    · simp only [Prod.mk.injEq, and_true] at h
      rw [← h]
      exact ⟨valsTo_length _ _ _, vals_fit (ubx_layOk c) hB _ (by omega) _ (Nat.le_refl _)⟩
theorem srf_fits {S : List Nat} (hB : Bytes S) {m : Nat} {zs : List Int} (h : srfDec S = (m, zs, 0)) : zs.length = (srfLay m).2.length / 2 ∧ fitsTo (srfLay m).2 zs ((srfLay m).2.length / 2) = true := by
  unfold srfDec at h
  split at h
  · simp at h
  · split at h
    · simp at h
    · split at h
      · simp at h
      · simp only [Prod.mk.injEq, and_true] at h
        obtain ⟨rfl, rfl⟩ := h
        exact ⟨bvalsTo_length _ _ _, bvals_fit (srf_layOk _) hB _ (by omega) _ (Nat.le_refl _)⟩
theorem fits_at {l zs : List Int} : ∀ {K : Nat}, fitsTo l zs K = true → ∀ j, j < K → fitsZ (zi zs j) (zi l (2 * j + 1)) = true
  | 0, _, j, h => absurd h (by omega)
  | k + 1, h, j, hj => by
    rw [fitsTo, Bool.and_eq_true] at h
    by_cases e : j = k
    · subst e; exact h.2
    · exact fits_at h.1 j (by omega)
theorem vfit1 {v : Int} (h : fitsZ v 1 = true) : 0 ≤ v ∧ v ≤ 255 := by unfold fitsZ at h; simp at h; omega
theorem vfit2 {v : Int} (h : fitsZ v 2 = true) : 0 ≤ v ∧ v ≤ 65535 := by unfold fitsZ at h; simp at h; omega
theorem vfit4 {v : Int} (h : fitsZ v 4 = true) : 0 ≤ v ∧ v ≤ 4294967295 := by unfold fitsZ at h; simp at h; omega
theorem vfit4s {v : Int} (h : fitsZ v (-4) = true) : -2147483648 ≤ v ∧ v ≤ 2147483647 := by unfold fitsZ at h; simp at h; omega
theorem vfit2s {v : Int} (h : fitsZ v (-2) = true) : -32768 ≤ v ∧ v ≤ 32767 := by unfold fitsZ at h; simp at h; omega
theorem vfit1s {v : Int} (h : fitsZ v (-1) = true) : -128 ≤ v ∧ v ≤ 127 := by unfold fitsZ at h; simp at h; omega
end Go.Proofs.YtnhigfkhdmkoeaaGreatDoor

namespace Go.Proofs.YtnhigfkhdmkoeaaGreatDoor
open Go.RowKit
set_option linter.unusedVariables false

theorem of_pvt (v : Value) (S : List Nat) (w : World) (hr : Row .u8 w v S) (hB : Bytes (S.drop 2)) (zs : List Int) (hz : ubxDec 263 (S.drop 2) = (zs, 0)) (HR : ∀ w', Grew w w' → Calls Tryz.prog 9 #[.agg #[.int .u8 ((2 : Nat) : Int), v]] w' (ReadV 2 1 7 0 zs w')) (ht : Tab w) :
    Calls Tryz.prog 6 #[.agg #[.int .u8 ((2 : Nat) : Int), v]] w fun e w' => e = .returned (mgAns (if zi zs 7 % 8 = 7 ∧ (3 ≤ zi zs 10 ∧ zi zs 10 ≤ 5) ∧ zi zs 11 % 2 = 1 ∧ zi zs 9 = 0 then utcM 3 0 (zi zs 1) (zi zs 2) (zi zs 3) (zi zs 4) (zi zs 5) (zi zs 6) else none)) ∧ Grew w w' := by
  obtain ⟨hlen, hfit⟩ := (ubx_fits hB hz)
  have hl : zs.length = 12 := hlen
  have b1 := vfit2 (fits_at hfit 1 (by decide))
  have b2 := vfit1 (fits_at hfit 2 (by decide))
  have b3 := vfit1 (fits_at hfit 3 (by decide))
  have b4 := vfit1 (fits_at hfit 4 (by decide))
  have b5 := vfit1 (fits_at hfit 5 (by decide))
  have b6 := vfit1 (fits_at hfit 6 (by decide))
  have b7 := vfit1 (fits_at hfit 7 (by decide))
  have b11 := vfit1 (fits_at hfit 11 (by decide))
  rw [show (utcM 3 0 (zi zs 1) (zi zs 2) (zi zs 3) (zi zs 4) (zi zs 5) (zi zs 6)) = withM 3 0 false (utcM 0 0 (zi zs 1) (zi zs 2) (zi zs 3) (zi zs 4) (zi zs 5) (zi zs 6)) from (utcM_with _ _ _ _ _ _ _ _).symm]
  exact of_values ⟨9, 2, 1, 7, 3, 0, false, 25, 26⟩ (by simp [mRows]) 2 v S w hr zs HR (zi zs 7 % 8 = 7 ∧ (3 ≤ zi zs 10 ∧ zi zs 10 ≤ 5) ∧ zi zs 11 % 2 = 1 ∧ zi zs 9 = 0) (utcM 0 0 (zi zs 1) (zi zs 2) (zi zs 3) (zi zs 4) (zi zs 5) (zi zs 6)) ht (enters_of Tryz.func25 (by kernel_rfl) rfl) (enters_of Tryz.func26 (by kernel_rfl) rfl)
    (fun w C h => msg_pvtHolds C zs w h (by omega) (by omega) (by omega)) (fun w C h t => msg_pvtSecond C zs w h (by omega) (by omega) (by omega) (by omega) (by omega) (by omega) (by omega) t)
theorem of_timeGPS (v : Value) (S : List Nat) (w : World) (hr : Row .u8 w v S) (hB : Bytes (S.drop 2)) (zs : List Int) (hz : ubxDec 288 (S.drop 2) = (zs, 0)) (HR : ∀ w', Grew w w' → Calls Tryz.prog 9 #[.agg #[.int .u8 ((2 : Nat) : Int), v]] w' (ReadV 2 1 32 0 zs w')) (ht : Tab w) :
    Calls Tryz.prog 6 #[.agg #[.int .u8 ((2 : Nat) : Int), v]] w fun e w' => e = .returned (mgAns (if zi zs 4 % 4 = 3 ∧ zi zs 1 = 0 then gpsM 4 0 false (zi zs 2) (zi zs 0) else none)) ∧ Grew w w' := by
  obtain ⟨hlen, hfit⟩ := (ubx_fits hB hz)
  have hl : zs.length = 6 := hlen
  have b0 := vfit4 (fits_at hfit 0 (by decide))
  have b2 := vfit2 (fits_at hfit 2 (by decide))
  have b4 := vfit1 (fits_at hfit 4 (by decide))
  rw [show (gpsM 4 0 false (zi zs 2) (zi zs 0)) = withM 4 0 false (gpsM 0 0 false (zi zs 2) (zi zs 0)) from (gpsM_with _ _ _ _ _).symm]
  exact of_values ⟨12, 2, 1, 32, 4, 0, false, 27, 28⟩ (by simp [mRows]) 2 v S w hr zs HR (zi zs 4 % 4 = 3 ∧ zi zs 1 = 0) (gpsM 0 0 false (zi zs 2) (zi zs 0)) ht (enters_of Tryz.func27 (by kernel_rfl) rfl) (enters_of Tryz.func28 (by kernel_rfl) rfl)
    (fun w C h => msg_timeGPSHolds C zs w h (by omega) (by omega)) (fun w C h t => msg_timeGPSSecond C zs w h (by omega) (by omega) (by omega))
theorem of_timeUTC (v : Value) (S : List Nat) (w : World) (hr : Row .u8 w v S) (hB : Bytes (S.drop 2)) (zs : List Int) (hz : ubxDec 289 (S.drop 2) = (zs, 0)) (HR : ∀ w', Grew w w' → Calls Tryz.prog 9 #[.agg #[.int .u8 ((2 : Nat) : Int), v]] w' (ReadV 2 1 33 0 zs w')) (ht : Tab w) :
    Calls Tryz.prog 6 #[.agg #[.int .u8 ((2 : Nat) : Int), v]] w fun e w' => e = .returned (mgAns (if 4 ≤ zi zs 9 % 8 ∧ zi zs 2 = 0 then utcM 5 0 (zi zs 3) (zi zs 4) (zi zs 5) (zi zs 6) (zi zs 7) (zi zs 8) else none)) ∧ Grew w w' := by
  obtain ⟨hlen, hfit⟩ := (ubx_fits hB hz)
  have hl : zs.length = 10 := hlen
  have b3 := vfit2 (fits_at hfit 3 (by decide))
  have b4 := vfit1 (fits_at hfit 4 (by decide))
  have b5 := vfit1 (fits_at hfit 5 (by decide))
  have b6 := vfit1 (fits_at hfit 6 (by decide))
  have b7 := vfit1 (fits_at hfit 7 (by decide))
  have b8 := vfit1 (fits_at hfit 8 (by decide))
  have b9 := vfit1 (fits_at hfit 9 (by decide))
  rw [show (utcM 5 0 (zi zs 3) (zi zs 4) (zi zs 5) (zi zs 6) (zi zs 7) (zi zs 8)) = withM 5 0 false (utcM 0 0 (zi zs 3) (zi zs 4) (zi zs 5) (zi zs 6) (zi zs 7) (zi zs 8)) from (utcM_with _ _ _ _ _ _ _ _).symm]
  exact of_values ⟨15, 2, 1, 33, 5, 0, false, 29, 30⟩ (by simp [mRows]) 2 v S w hr zs HR (4 ≤ zi zs 9 % 8 ∧ zi zs 2 = 0) (utcM 0 0 (zi zs 3) (zi zs 4) (zi zs 5) (zi zs 6) (zi zs 7) (zi zs 8)) ht (enters_of Tryz.func29 (by kernel_rfl) rfl) (enters_of Tryz.func30 (by kernel_rfl) rfl)
    (fun w C h => msg_timeUTCHolds C zs w h (by omega) (by omega)) (fun w C h t => msg_timeUTCSecond C zs w h (by omega) (by omega) (by omega) (by omega) (by omega) (by omega) (by omega) t)
theorem of_timTP (v : Value) (S : List Nat) (w : World) (hr : Row .u8 w v S) (hB : Bytes (S.drop 2)) (zs : List Int) (hz : ubxDec 3329 (S.drop 2) = (zs, 0)) (HR : ∀ w', Grew w w' → Calls Tryz.prog 9 #[.agg #[.int .u8 ((2 : Nat) : Int), v]] w' (ReadV 2 13 1 0 zs w')) (ht : Tab w) :
    Calls Tryz.prog 6 #[.agg #[.int .u8 ((2 : Nat) : Int), v]] w fun e w' => e = .returned (mgAns (if zi zs 4 % 2 = 0 ∧ zi zs 1 = 0 then gpsM 6 0 true (zi zs 3) (zi zs 0) else none)) ∧ Grew w w' := by
  obtain ⟨hlen, hfit⟩ := (ubx_fits hB hz)
  have hl : zs.length = 6 := hlen
  have b0 := vfit4 (fits_at hfit 0 (by decide))
  have b3 := vfit2 (fits_at hfit 3 (by decide))
  have b4 := vfit1 (fits_at hfit 4 (by decide))
  rw [show (gpsM 6 0 true (zi zs 3) (zi zs 0)) = withM 6 0 true (gpsM 0 0 false (zi zs 3) (zi zs 0)) from (gpsM_with _ _ _ _ _).symm]
  exact of_values ⟨18, 2, 13, 1, 6, 0, true, 31, 32⟩ (by simp [mRows]) 2 v S w hr zs HR (zi zs 4 % 2 = 0 ∧ zi zs 1 = 0) (gpsM 0 0 false (zi zs 3) (zi zs 0)) ht (enters_of Tryz.func31 (by kernel_rfl) rfl) (enters_of Tryz.func32 (by kernel_rfl) rfl)
    (fun w C h => msg_timTPHolds C zs w h (by omega) (by omega)) (fun w C h t => msg_timTPSecond C zs w h (by omega) (by omega) (by omega))
theorem of_sirf2 (v : Value) (S : List Nat) (w : World) (hr : Row .u8 w v S) (hB : Bytes S) (zs : List Int) (hz : srfDec S = (2, zs, 0)) (HR : ∀ w', Grew w w' → Calls Tryz.prog 9 #[.agg #[.int .u8 ((3 : Nat) : Int), v]] w' (ReadV 3 0 2 0 zs w')) (ht : Tab w) :
    Calls Tryz.prog 6 #[.agg #[.int .u8 ((3 : Nat) : Int), v]] w fun e w' => e = .returned (mgAns (if 3 ≤ zi zs 6 % 8 ∧ zi zs 6 % 8 ≤ 6 then gpsM 7 1024 false (zi zs 9 % 1024) (10 * zi zs 10) else none)) ∧ Grew w w' := by
  obtain ⟨hlen, hfit⟩ := (srf_fits hB hz)
  have hl : zs.length = 12 := hlen
  have b6 := vfit1 (fits_at hfit 6 (by decide))
  have b9 := vfit2 (fits_at hfit 9 (by decide))
  have b10 := vfit4 (fits_at hfit 10 (by decide))
  rw [show (gpsM 7 1024 false (zi zs 9 % 1024) (10 * zi zs 10)) = withM 7 1024 false (gpsM 0 0 false (zi zs 9 % 1024) (10 * zi zs 10)) from (gpsM_with _ _ _ _ _).symm]
  exact of_values ⟨21, 3, 0, 2, 7, 1024, false, 33, 34⟩ (by simp [mRows]) 3 v S w hr zs HR (3 ≤ zi zs 6 % 8 ∧ zi zs 6 % 8 ≤ 6) (gpsM 0 0 false (zi zs 9 % 1024) (10 * zi zs 10)) ht (enters_of Tryz.func33 (by kernel_rfl) rfl) (enters_of Tryz.func34 (by kernel_rfl) rfl)
    (fun w C h => msg_sirf2Holds C zs w h (by omega) (by omega)) (fun w C h t => msg_sirf2Second C zs w h (by omega) (by omega) (by omega))
theorem of_sirf4 (v : Value) (S : List Nat) (w : World) (hr : Row .u8 w v S) (hB : Bytes S) (zs : List Int) (hz : srfDec S = (4, zs, 0)) (HR : ∀ w', Grew w w' → Calls Tryz.prog 9 #[.agg #[.int .u8 ((3 : Nat) : Int), v]] w' (ReadV 3 0 4 0 zs w')) (ht : Tab w) :
    Calls Tryz.prog 6 #[.agg #[.int .u8 ((3 : Nat) : Int), v]] w fun e w' => e = .returned (mgAns (if 4 ≤ zi zs 2 then gpsM 8 1024 false (zi zs 0 % 1024) (10 * zi zs 1) else none)) ∧ Grew w w' := by
  obtain ⟨hlen, hfit⟩ := (srf_fits hB hz)
  have hl : zs.length = 3 := hlen
  have b0 := vfit2s (fits_at hfit 0 (by decide))
  have b1 := vfit4 (fits_at hfit 1 (by decide))
  rw [show (gpsM 8 1024 false (zi zs 0 % 1024) (10 * zi zs 1)) = withM 8 1024 false (gpsM 0 0 false (zi zs 0 % 1024) (10 * zi zs 1)) from (gpsM_with _ _ _ _ _).symm]
  exact of_values ⟨24, 3, 0, 4, 8, 1024, false, 35, 36⟩ (by simp [mRows]) 3 v S w hr zs HR (4 ≤ zi zs 2) (gpsM 0 0 false (zi zs 0 % 1024) (10 * zi zs 1)) ht (enters_of Tryz.func35 (by kernel_rfl) rfl) (enters_of Tryz.func36 (by kernel_rfl) rfl)
    (fun w C h => msg_sirf4Holds C zs w h (by omega)) (fun w C h t => msg_sirf4Second C zs w h (by omega) (by omega) (by omega))
theorem of_sirf7 (v : Value) (S : List Nat) (w : World) (hr : Row .u8 w v S) (hB : Bytes S) (zs : List Int) (hz : srfDec S = (7, zs, 0)) (HR : ∀ w', Grew w w' → Calls Tryz.prog 9 #[.agg #[.int .u8 ((3 : Nat) : Int), v]] w' (ReadV 3 0 7 0 zs w')) (ht : Tab w) :
    Calls Tryz.prog 6 #[.agg #[.int .u8 ((3 : Nat) : Int), v]] w fun e w' => e = .returned (mgAns (if 4 ≤ zi zs 2 then gpsM 9 0 false (zi zs 0) (10 * zi zs 1) else none)) ∧ Grew w w' := by
  obtain ⟨hlen, hfit⟩ := (srf_fits hB hz)
  have hl : zs.length = 6 := hlen
  have b0 := vfit2 (fits_at hfit 0 (by decide))
  have b1 := vfit4 (fits_at hfit 1 (by decide))
  rw [show (gpsM 9 0 false (zi zs 0) (10 * zi zs 1)) = withM 9 0 false (gpsM 0 0 false (zi zs 0) (10 * zi zs 1)) from (gpsM_with _ _ _ _ _).symm]
  exact of_values ⟨27, 3, 0, 7, 9, 0, false, 37, 38⟩ (by simp [mRows]) 3 v S w hr zs HR (4 ≤ zi zs 2) (gpsM 0 0 false (zi zs 0) (10 * zi zs 1)) ht (enters_of Tryz.func37 (by kernel_rfl) rfl) (enters_of Tryz.func38 (by kernel_rfl) rfl)
    (fun w C h => msg_sirf7Holds C zs w h (by omega)) (fun w C h t => msg_sirf7Second C zs w h (by omega) (by omega) (by omega))
theorem of_sirf41 (v : Value) (S : List Nat) (w : World) (hr : Row .u8 w v S) (hB : Bytes S) (zs : List Int) (hz : srfDec S = (41, zs, 0)) (HR : ∀ w', Grew w w' → Calls Tryz.prog 9 #[.agg #[.int .u8 ((3 : Nat) : Int), v]] w' (ReadV 3 0 41 0 zs w')) (ht : Tab w) :
    Calls Tryz.prog 6 #[.agg #[.int .u8 ((3 : Nat) : Int), v]] w fun e w' => e = .returned (mgAns (if zi zs 0 = 0 ∧ zi zs 9 % 1000 = 0 then utcM 10 0 (zi zs 4) (zi zs 5) (zi zs 6) (zi zs 7) (zi zs 8) (zi zs 9 / 1000) else none)) ∧ Grew w w' := by
  obtain ⟨hlen, hfit⟩ := (srf_fits hB hz)
  have hl : zs.length = 10 := hlen
  have b4 := vfit2 (fits_at hfit 4 (by decide))
  have b5 := vfit1 (fits_at hfit 5 (by decide))
  have b6 := vfit1 (fits_at hfit 6 (by decide))
  have b7 := vfit1 (fits_at hfit 7 (by decide))
  have b8 := vfit1 (fits_at hfit 8 (by decide))
  have b9 := vfit2 (fits_at hfit 9 (by decide))
  rw [show (utcM 10 0 (zi zs 4) (zi zs 5) (zi zs 6) (zi zs 7) (zi zs 8) (zi zs 9 / 1000)) = withM 10 0 false (utcM 0 0 (zi zs 4) (zi zs 5) (zi zs 6) (zi zs 7) (zi zs 8) (zi zs 9 / 1000)) from (utcM_with _ _ _ _ _ _ _ _).symm]
  exact of_values ⟨30, 3, 0, 41, 10, 0, false, 39, 40⟩ (by simp [mRows]) 3 v S w hr zs HR (zi zs 0 = 0 ∧ zi zs 9 % 1000 = 0) (utcM 0 0 (zi zs 4) (zi zs 5) (zi zs 6) (zi zs 7) (zi zs 8) (zi zs 9 / 1000)) ht (enters_of Tryz.func39 (by kernel_rfl) rfl) (enters_of Tryz.func40 (by kernel_rfl) rfl)
    (fun w C h => msg_sirf41Holds C zs w h (by omega) (by omega)) (fun w C h t => msg_sirf41Second C zs w h (by omega) (by omega) (by omega) (by omega) (by omega) (by omega) (by omega) t)
theorem of_sirf52 (v : Value) (S : List Nat) (w : World) (hr : Row .u8 w v S) (hB : Bytes S) (zs : List Int) (hz : srfDec S = (52, zs, 0)) (HR : ∀ w', Grew w w' → Calls Tryz.prog 9 #[.agg #[.int .u8 ((3 : Nat) : Int), v]] w' (ReadV 3 0 52 0 zs w')) (ht : Tab w) :
    Calls Tryz.prog 6 #[.agg #[.int .u8 ((3 : Nat) : Int), v]] w fun e w' => e = .returned (mgAns (if zi zs 8 % 4 = 3 then utcM 11 0 (zi zs 5) (zi zs 4) (zi zs 3) (zi zs 0) (zi zs 1) (zi zs 2) else none)) ∧ Grew w w' := by
  obtain ⟨hlen, hfit⟩ := (srf_fits hB hz)
  have hl : zs.length = 9 := hlen
  have b0 := vfit1 (fits_at hfit 0 (by decide))
  have b1 := vfit1 (fits_at hfit 1 (by decide))
  have b2 := vfit1 (fits_at hfit 2 (by decide))
  have b3 := vfit1 (fits_at hfit 3 (by decide))
  have b4 := vfit1 (fits_at hfit 4 (by decide))
  have b5 := vfit2 (fits_at hfit 5 (by decide))
  have b8 := vfit1 (fits_at hfit 8 (by decide))
  rw [show (utcM 11 0 (zi zs 5) (zi zs 4) (zi zs 3) (zi zs 0) (zi zs 1) (zi zs 2)) = withM 11 0 false (utcM 0 0 (zi zs 5) (zi zs 4) (zi zs 3) (zi zs 0) (zi zs 1) (zi zs 2)) from (utcM_with _ _ _ _ _ _ _ _).symm]
  exact of_values ⟨33, 3, 0, 52, 11, 0, false, 41, 42⟩ (by simp [mRows]) 3 v S w hr zs HR (zi zs 8 % 4 = 3) (utcM 0 0 (zi zs 5) (zi zs 4) (zi zs 3) (zi zs 0) (zi zs 1) (zi zs 2)) ht (enters_of Tryz.func41 (by kernel_rfl) rfl) (enters_of Tryz.func42 (by kernel_rfl) rfl)
    (fun w C h => msg_sirf52Holds C zs w h (by omega) (by omega)) (fun w C h t => msg_sirf52Second C zs w h (by omega) (by omega) (by omega) (by omega) (by omega) (by omega) (by omega) t)
end Go.Proofs.YtnhigfkhdmkoeaaGreatDoor

namespace Go.Proofs.YtnhigfkhdmkoeaaGreatDoor
open Go.RowKit
set_option linter.unusedVariables false

theorem clock_in (S : List Nat) : (clockOf S).1.1 ≤ 23 ∧ (clockOf S).1.2.1 ≤ 59 ∧ (clockOf S).1.2.2.1 ≤ 60 := by
  unfold clockOf
  split
  · exact ⟨Nat.zero_le _, Nat.zero_le _, Nat.zero_le _⟩
  · split
    · exact ⟨Nat.zero_le _, Nat.zero_le _, Nat.zero_le _⟩
    · split
      · exact ⟨Nat.zero_le _, Nat.zero_le _, Nat.zero_le _⟩
      · rename_i h
        simp only
        omega
theorem date_in (S : List Nat) : (dateOf S).1.1 ≤ 31 ∧ (dateOf S).1.2.1 ≤ 12 ∧ (dateOf S).1.2.2 ≤ 99 := by
  unfold dateOf
  split
  · exact ⟨Nat.zero_le _, Nat.zero_le _, Nat.zero_le _⟩
  · split
    · exact ⟨Nat.zero_le _, Nat.zero_le _, Nat.zero_le _⟩
    · rename_i h
      have hd : digs S 0 6 = true := by
        by_cases q : digs S 0 6 = true
        · exact q
        · exact absurd (.inr (.inl (by simpa using q))) h
      have hl : S.length = 6 := by
        apply Classical.byContradiction
        intro q
        exact h (.inl q)
      have ha := (digs_iff (by omega)).1 hd
      have h2 := two_lt S 4 (ha.2 4 (by omega) (by omega)) (ha.2 5 (by omega) (by omega))
      simp only
      omega
theorem sats_kind (f : Nat → List Nat) (s : Rs) : ∀ k, (satsTo f k s).1.kind = s.1.kind
  | 0 => rfl
  | k + 1 => sats_kind f s k
theorem gsa_kind (f : Nat → List Nat) (s : Rs) : (gsaOf f s).1.kind = s.1.kind := by
  unfold gsaOf
  simp only
  rw [sats_kind]
  rfl
theorem read_kind (f : Nat → List Nat) (n k : Nat) (hk : 1 ≤ k ∧ k ≤ 7) : (readOf f k n).1.kind = k := by
  obtain rfl | rfl | rfl | rfl | rfl | rfl | rfl : k = 1 ∨ k = 2 ∨ k = 3 ∨ k = 4 ∨ k = 5 ∨ k = 6 ∨ k = 7 := by omega
  · rfl
  · rfl
  · rfl
  · unfold readOf
    rw [if_neg (by decide), if_neg (by decide), if_neg (by decide), if_pos rfl, gsa_kind]
    rfl
  · rfl
  · rfl
  · rfl
theorem parse_cases (s : ByteArray) : ((parseOf s).2 ≠ 0 ∧ (parseOf s).1.kind = 0) ∨ ∃ (f : Nat → List Nat) (n k : Nat), (1 ≤ k ∧ k ≤ 7) ∧ parseOf s = ((readOf f k n).1, 0) := by
  unfold parseOf fixOf
  split
  · exact .inl ⟨(by decide : (7 : Nat) ≠ 0), rfl⟩
  · split
    · exact .inl ⟨(by decide : (4 : Nat) ≠ 0), rfl⟩
    · split
      · exact .inl ⟨(by decide : (3 : Nat) ≠ 0), rfl⟩
      · split
        · exact .inl ⟨(by decide : (5 : Nat) ≠ 0), rfl⟩
        · rename_i h0 _ _ _
          exact .inr ⟨_, _, _, ⟨by omega, kind_le _⟩, rfl⟩
theorem fix_in (s : ByteArray) (h0 : (parseOf s).2 = 0) (hk : (parseOf s).1.kind = 1 ∨ (parseOf s).1.kind = 5) :
    (0 ≤ (parseOf s).1.year ∧ (parseOf s).1.year ≤ 2199) ∧ (0 ≤ (parseOf s).1.month ∧ (parseOf s).1.month ≤ 12) ∧ (0 ≤ (parseOf s).1.day ∧ (parseOf s).1.day ≤ 31) ∧ (parseOf s).1.time.1 ≤ 23 ∧ (parseOf s).1.time.2.1 ≤ 59 ∧ (parseOf s).1.time.2.2.1 ≤ 60 := by
  rcases parse_cases s with ⟨h, _⟩ | ⟨f, n, k, hk2, h⟩
  · exact absurd h0 h
  · rw [h] at hk ⊢
    simp only at hk ⊢
    rw [read_kind f n k hk2] at hk
    rcases hk with rfl | rfl
    · have hc := clock_in (f 1)
      have hd := date_in (f 9)
      show (0 ≤ (((dateOf (f 9)).1.2.2 : Nat) : Int) ∧ (((dateOf (f 9)).1.2.2 : Nat) : Int) ≤ 2199) ∧ (0 ≤ (((dateOf (f 9)).1.2.1 : Nat) : Int) ∧ (((dateOf (f 9)).1.2.1 : Nat) : Int) ≤ 12) ∧ (0 ≤ (((dateOf (f 9)).1.1 : Nat) : Int) ∧ (((dateOf (f 9)).1.1 : Nat) : Int) ≤ 31) ∧ (clockOf (f 1)).1.1 ≤ 23 ∧ (clockOf (f 1)).1.2.1 ≤ 59 ∧ (clockOf (f 1)).1.2.2.1 ≤ 60
      omega
    · have hc := clock_in (f 1)
      have h2 := int_in2 (f 2) 1 31 (by decide) (by decide)
      have h3 := int_in2 (f 3) 1 12 (by decide) (by decide)
      have h4 := int_in2 (f 4) 1980 2199 (by decide) (by decide)
      exact ⟨h4, h3, h2, hc⟩
/-- What a sentence tells stands in its cells. -/
theorem told_fix (F : Told) (v : Value) : FixC (F.cells.push v) F.valid F.hasTime F.hasDate F.time.2.2.2 (F.time.1 : Nat) (F.time.2.1 : Nat) (F.time.2.2.1 : Nat) F.day F.month F.year := ⟨rfl, rfl, rfl, rfl, rfl, rfl, rfl, rfl, rfl, rfl⟩
theorem told_fix0 (F : Told) : FixC F.cells F.valid F.hasTime F.hasDate F.time.2.2.2 (F.time.1 : Nat) (F.time.2.1 : Nat) (F.time.2.2.1 : Nat) F.day F.month F.year := ⟨rfl, rfl, rfl, rfl, rfl, rfl, rfl, rfl, rfl, rfl⟩
theorem told_pre (F : Told) (v : Value) : PreC (F.cells.push v) F.cells := by
  refine ⟨rfl, fun k u h => ?_⟩
  have hk : k < F.cells.size := (Array.getElem?_eq_some_iff.1 h).1
  rw [Array.getElem?_push, if_neg (by omega)]
  exact h
theorem readsAs_nmea {S : List Nat} {v : Value} {w : World} (hr : Row .u8 w v S) (hl : (strOf S).size ≤ 2000) (ok : Bool) (hok : (((parseOf (strOf S)).2 : Int) == 0) = ok) :
    ReadsAs 1 0 (parseOf (strOf S)).1.kind ok (fun _ C => C = (parseOf (strOf S)).1.cells.push (.slice none 0 0)) (.agg #[.int .u8 ((1 : Nat) : Int), v]) w := by
  refine (msg_read_nmea v S w hr hl).mono ?_
  rintro e w' ⟨rfl, g⟩
  exact ⟨_, by rw [hok]; rfl, rfl, cont_one _ none 0 0, rfl, g⟩
theorem of_nmea (v : Value) (S : List Nat) (w : World) (hr : Row .u8 w v S) (hl : (strOf S).size ≤ 2000) (ht : Tab w) :
    Calls Tryz.prog 6 #[.agg #[.int .u8 ((1 : Nat) : Int), v]] w fun e w' => e = .returned (mgAns (nmeaM (parseOf (strOf S)))) ∧ Grew w w' := by
  by_cases h0 : (parseOf (strOf S)).2 = 0
  · have hok : (((parseOf (strOf S)).2 : Int) == 0) = true := by rw [h0]; rfl
    have HR := fun w' (g : Grew w w') => readsAs_nmea (hr.grew g) hl true hok
    have hb := fix_in (strOf S) h0
    unfold nmeaM
    rw [if_neg (by simp [h0])]
    generalize (parseOf (strOf S)).1 = F at *
    by_cases h1 : F.kind = 1
    · rw [if_pos h1]
      obtain ⟨b1, b2, b3, b4, b5, b6⟩ := hb (.inl h1)
      rw [h1] at HR
      have h := msg_Of_row ⟨3, 1, 0, 1, 1, 100, false, 21, 22⟩ (by simp [mRows]) (fun _ C => C = F.cells.push (.slice none 0 0)) 1 v w (row_form hr) HR (fun _ _ _ h _ => h) (F.valid && F.hasTime && F.hasDate && F.time.2.2.2)
        (utcM 0 0 (F.year + 2000) F.month F.day (F.time.1 : Nat) (F.time.2.1 : Nat) (F.time.2.2.1 : Nat)) ht (enters_of Tryz.func21 (by kernel_rfl) rfl) (enters_of Tryz.func22 (by kernel_rfl) rfl)
        (fun w C hC => by subst hC; exact msg_rmcHolds _ _ _ _ _ _ _ _ _ _ _ w (told_fix F _)) (fun _ w C hC t => by subst hC; exact msg_rmcSecond _ F.cells _ _ _ _ _ _ _ _ _ _ w (told_pre F _) (told_fix0 F) (by omega) (by omega) (by omega) (by omega) (by omega) (by omega) t)
      rw [utcM_with] at h
      exact h
    · rw [if_neg h1]
      by_cases h5 : F.kind = 5
      · rw [if_pos h5]
        obtain ⟨b1, b2, b3, b4, b5, b6⟩ := hb (.inr h5)
        rw [h5] at HR
        have h := msg_Of_row ⟨6, 1, 0, 5, 2, 0, false, 23, 24⟩ (by simp [mRows]) (fun _ C => C = F.cells.push (.slice none 0 0)) 1 v w (row_form hr) HR (fun _ _ _ h _ => h) (F.valid && F.time.2.2.2)
          (utcM 0 0 F.year F.month F.day (F.time.1 : Nat) (F.time.2.1 : Nat) (F.time.2.2.1 : Nat)) ht (enters_of Tryz.func23 (by kernel_rfl) rfl) (enters_of Tryz.func24 (by kernel_rfl) rfl)
          (fun w C hC => by subst hC; exact msg_zdaHolds _ _ _ _ _ _ _ _ _ _ _ w (told_fix F _)) (fun _ w C hC t => by subst hC; exact msg_zdaSecond _ F.cells _ _ _ _ _ _ _ _ _ _ w (told_pre F _) (told_fix0 F) (by omega) (by omega) (by omega) (by omega) (by omega) (by omega) t)
        rw [utcM_with] at h
        exact h
      · rw [if_neg h5]
        refine msg_Of_miss 1 0 F.kind _ 1 v w (row_form hr) (fun k hk => ?_) HR (fun _ _ _ h _ => h)
        simp only [mRows, List.mem_cons, List.not_mem_nil, or_false] at hk
        rcases hk with rfl | rfl | rfl | rfl | rfl | rfl | rfl | rfl | rfl | rfl | rfl <;> simp [same3] <;> omega
  · have hok : (((parseOf (strOf S)).2 : Int) == 0) = false := by simp; omega
    have HR := fun w' (g : Grew w w') => readsAs_nmea (hr.grew g) hl false hok
    unfold nmeaM
    rw [if_pos h0]
    exact msg_Of_no 1 0 _ _ 1 v w (row_form hr) HR
end Go.Proofs.YtnhigfkhdmkoeaaGreatDoor

namespace Go.Proofs.YtnhigfkhdmkoeaaGreatDoor
open Go.RowKit
set_option linter.unusedVariables false

theorem strOf_size (S : List Nat) : (strOf S).size = S.length := by
  unfold strOf strOfNums
  simp [ByteArray.size]
theorem bytes_drop {S : List Nat} (hB : Bytes S) (k : Nat) : Bytes (S.drop k) := fun i => by rw [drop_wd]; exact hB _
theorem readsAs_no {k : Nat} {S : List Nat} {v : Value} {w : World} (hr : Row .u8 w v S) (hk : (k = 2 ∧ S.length < 2) ∨ (k ≠ 1 ∧ k ≠ 2 ∧ k ≠ 3)) : ReadsAs 0 0 0 false (fun _ _ => True) (.agg #[.int .u8 (k : Nat), v]) w := by
  refine (msg_read_no k v S w hr hk).mono ?_
  rintro e w' ⟨rfl, g⟩
  exact ⟨_, rfl, rfl, cont_one {} none 0 0, trivial, g⟩
theorem key_none (a b c : Nat) (h : ∀ k ∈ mRows, ¬ (a = k.a ∧ b = k.b ∧ c = k.c)) : ∀ k ∈ mRows, same3 a b c k.a k.b k.c = false := fun k hk => by
  by_cases q : same3 a b c k.a k.b k.c = true
  · exact absurd (same3_iff.1 q) (h k hk)
  · simpa using q
theorem of_ubx (v : Value) (S : List Nat) (w : World) (hr : Row .u8 w v S) (hB : Bytes S) (hl : S.length ≤ 100000) (hl2 : 2 ≤ S.length) (ht : Tab w) :
    Calls Tryz.prog 6 #[.agg #[.int .u8 ((2 : Nat) : Int), v]] w fun e w' => e = .returned (mgAns (ubxM (wd S 0 * 256 + wd S 1) (ubxDec (wd S 0 * 256 + wd S 1) (S.drop 2)))) ∧ Grew w w' := by
  have h0 := hB 0
  have h1 := hB 1
  have hBd := bytes_drop hB 2
  obtain ⟨c, hc⟩ : ∃ c, wd S 0 * 256 + wd S 1 = c := ⟨_, rfl⟩
  obtain ⟨⟨zs, er⟩, hz⟩ : ∃ r, ubxDec c (S.drop 2) = r := ⟨_, rfl⟩
  have HR := fun w' (g : Grew w w') => msg_read_ubx v S w' (hr.grew g) hB hl hl2 _ _ er zs (by rw [hc]; exact hz) rfl rfl
  rw [hc, hz]
  by_cases he : er = 0
  · subst he
    rw [if_pos rfl, if_pos rfl] at HR
    unfold ubxM
    rw [if_neg (by simp)]
    by_cases q1 : c = 263
    · rw [if_pos q1]
      rw [show wd S 0 = 1 by omega, show wd S 1 = 7 by omega] at HR
      rw [q1] at hz
      exact of_pvt v S w hr hBd zs hz HR ht
    · rw [if_neg q1]
      by_cases q2 : c = 288
      · rw [if_pos q2]
        rw [show wd S 0 = 1 by omega, show wd S 1 = 32 by omega] at HR
        rw [q2] at hz
        exact of_timeGPS v S w hr hBd zs hz HR ht
      · rw [if_neg q2]
        by_cases q3 : c = 289
        · rw [if_pos q3]
          rw [show wd S 0 = 1 by omega, show wd S 1 = 33 by omega] at HR
          rw [q3] at hz
          exact of_timeUTC v S w hr hBd zs hz HR ht
        · rw [if_neg q3]
          by_cases q4 : c = 3329
          · rw [if_pos q4]
            rw [show wd S 0 = 13 by omega, show wd S 1 = 1 by omega] at HR
            rw [q4] at hz
            exact of_timTP v S w hr hBd zs hz HR ht
          · rw [if_neg q4]
            refine msg_Of_miss 2 (wd S 0) (wd S 1) (fun w C => ValC w C zs) 2 v w (row_form hr) (key_none _ _ _ fun k hk => ?_) (fun w' g => readsAs_values (HR w' g) true rfl) (fun w w' C h g => h.grew g)
            simp only [mRows, List.mem_cons, List.not_mem_nil, or_false] at hk
            rcases hk with rfl | rfl | rfl | rfl | rfl | rfl | rfl | rfl | rfl | rfl | rfl <;> simp only <;> omega
  · unfold ubxM
    rw [if_pos he]
    exact msg_Of_no 2 _ _ (fun w C => ValC w C zs) 2 v w (row_form hr) (fun w' g => readsAs_values (HR w' g) false (by simp; omega))
theorem of_srf (v : Value) (S : List Nat) (w : World) (hr : Row .u8 w v S) (hB : Bytes S) (hl : S.length ≤ 100000) (ht : Tab w) :
    Calls Tryz.prog 6 #[.agg #[.int .u8 ((3 : Nat) : Int), v]] w fun e w' => e = .returned (mgAns (srfM (srfDec S))) ∧ Grew w w' := by
  obtain ⟨⟨m, zs, er⟩, hz⟩ : ∃ r, srfDec S = r := ⟨_, rfl⟩
  have HR := fun w' (g : Grew w w') => msg_read_sirf v S w' (hr.grew g) hB hl m er zs hz
  rw [hz]
  by_cases he : er = 0
  · subst he
    unfold srfM
    rw [if_neg (by simp)]
    by_cases q1 : m = 2
    · subst q1; rw [if_pos rfl]; exact of_sirf2 v S w hr hB zs hz HR ht
    · rw [if_neg q1]
      by_cases q2 : m = 4
      · subst q2; rw [if_pos rfl]; exact of_sirf4 v S w hr hB zs hz HR ht
      · rw [if_neg q2]
        by_cases q3 : m = 7
        · subst q3; rw [if_pos rfl]; exact of_sirf7 v S w hr hB zs hz HR ht
        · rw [if_neg q3]
          by_cases q4 : m = 41
          · subst q4; rw [if_pos rfl]; exact of_sirf41 v S w hr hB zs hz HR ht
          · rw [if_neg q4]
            by_cases q5 : m = 52
            · subst q5; rw [if_pos rfl]; exact of_sirf52 v S w hr hB zs hz HR ht
            · rw [if_neg q5]
              refine msg_Of_miss 3 0 m (fun w C => ValC w C zs) 3 v w (row_form hr) (key_none _ _ _ fun k hk => ?_) (fun w' g => readsAs_values (HR w' g) true rfl) (fun w w' C h g => h.grew g)
              simp only [mRows, List.mem_cons, List.not_mem_nil, or_false] at hk
              rcases hk with rfl | rfl | rfl | rfl | rfl | rfl | rfl | rfl | rfl | rfl | rfl <;> simp only <;> omega
  · unfold srfM
    rw [if_pos he]
    exact msg_Of_no 3 0 m (fun w C => ValC w C zs) 3 v w (row_form hr) (fun w' g => readsAs_values (HR w' g) false (by simp; omega))
/-- Of, whatever frame. -/
theorem prog_MsgOf (k : Nat) (v : Value) (S : List Nat) (w : World) (hr : Row .u8 w v S) (hB : Bytes S) (hl : S.length ≤ 2000) (ht : Tab w) :
    Calls Tryz.prog 6 #[.agg #[.int .u8 (k : Nat), v]] w fun e w' => e = .returned (mgAns (msgOf k S)) ∧ Grew w w' := by
  unfold msgOf
  by_cases q1 : k = 1
  · subst q1; rw [if_pos rfl]; exact of_nmea v S w hr (by rw [strOf_size]; exact hl) ht
  · rw [if_neg q1]
    by_cases q2 : k = 2
    · subst q2
      rw [if_pos rfl]
      by_cases h2 : S.length < 2
      · rw [if_pos h2]
        exact msg_Of_no 0 0 0 (fun _ _ => True) 2 v w (row_form hr) (fun w' g => readsAs_no (hr.grew g) (.inl ⟨rfl, h2⟩))
      · rw [if_neg h2]
        exact of_ubx v S w hr hB (by omega) (by omega) ht
    · rw [if_neg q2]
      by_cases q3 : k = 3
      · subst q3; rw [if_pos rfl]; exact of_srf v S w hr hB (by omega) ht
      · rw [if_neg q3]
        exact msg_Of_no 0 0 0 (fun _ _ => True) k v w (row_form hr) (fun w' g => readsAs_no (hr.grew g) (.inr ⟨q1, q2, q3⟩))
end Go.Proofs.YtnhigfkhdmkoeaaGreatDoor

