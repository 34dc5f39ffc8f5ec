/-
  The program's SiRF messages: a kind looked up, whatever comes up first.
-/
import Derived.Test.YtjjpfbdcfifofaaSrpL
import Derived.Test.YtjjpfbdcfifofaaSrpR
import Derived.Test.YtjjpfbdcfifofaaSrrC
namespace Go.Proofs.Ytjjpfbdcfifofaa
open Go.RowKit
set_option linter.unusedVariables false

/-- What an operation of the look-up leaves: a value (inl); the table (0), the tuple (1), the layout (2), the variable (3). -/
def SLookS (c : Nat) (W : World) (lk st : Nat) (s : Value ⊕ Nat) (L : Nat → Bool) (w : World) (v : Value) : Prop :=
  match s with
  | .inl x => v = x
  | .inr 0 => L lk = false → SKindsAt w v
  | .inr 1 => ∃ lv, v = .tuple #[lv, .bool (decide ((srfLay c).1 ≠ 0))] ∧ SLayH w lv c
  | .inr 2 => SLayH w v c
  | .inr 3 => ∃ p, v = .pointer (some ⟨p, 0, none⟩) ∧ W.heap.size ≤ p ∧ p < w.heap.size ∧ (if L st = true then ∃ x y, SLayH w (.agg #[x, y]) c ∧ TwoC w p x y else ∃ x y, w.heap[p]? = some (.cells #[x, y] 42))
  | .inr _ => True
theorem slayH_grew {w w' : World} {v : Value} {c : Nat} (h : SLayH w v c) (g : Grew w w') : SLayH w' v c := h.kept fun b cs hb => (Below.block g b (Array.getElem?_eq_some_iff.1 hb).1).trans hb
theorem SLookS.also {c : Nat} {W : World} {lk st : Nat} {s : Value ⊕ Nat} {L : Nat → Bool} {j : Nat} {w w' : World} {v : Value} (h : SLookS c W lk st s L w v) (g : Grew w w') (hj : j ≠ st) : SLookS c W lk st s (also L j) w' v := by
  unfold SLookS at h ⊢
  split at h
  · exact h
  · intro hf
    have : L lk = false := by unfold Proofs.Ytjjpfbdcfifofaa.also at hf; cases q : L lk with | false => rfl | true => rw [q, Bool.or_true] at hf; cases hf
    exact (h this).grew g
  · obtain ⟨lv, e, hl⟩ := h; exact ⟨lv, e, slayH_grew hl g⟩
  · exact slayH_grew h g
  · obtain ⟨p, e, h1, h2, h3⟩ := h
    refine ⟨p, e, h1, Nat.lt_of_lt_of_le h2 g.size, ?_⟩
    rw [also_ne (by omega)]
    split at h3
    · rename_i q
      rw [if_pos q]
      obtain ⟨x, y, k1, k2⟩ := h3
      exact ⟨x, y, slayH_grew k1 g, k2.grew g⟩
    · rename_i q
      rw [if_neg q]
      obtain ⟨x, y, k1⟩ := h3
      exact ⟨x, y, (Below.block g p h2).trans k1⟩
  · trivial
section
variable {P : Program} {Q : Exit → Act → World → Prop} {o : Oper} {a : Act} {w W : World} {L : Nat → Bool} {ops : Array Oper} {i c lk st : Nat} {sh : List (Value ⊕ Nat)}
theorem sls_of (hd : ∀ j d, L j = true → writes ops j d = true → SLookS c W lk st (sh.getD j (.inr 4)) L w (a.tmps[d]?.getD undef)) (g : Grew W w) (hi : i ≠ st)
    (h : o.wp P a w (fun a' w'' => ∃ v, a' = a.put o.dst v ∧ SLookS c W lk st (sh.getD i (.inr 4)) (also L i) w'' v ∧ Grew w w'') Q) :
    o.wp P a w (fun a' w' => ∃ v, a' = a.put o.dst v ∧ (∀ d, o.dst = some d → SLookS c W lk st (sh.getD i (.inr 4)) (also L i) w' v) ∧ (∀ j d, L j = true → writes ops j d = true → SLookS c W lk st (sh.getD j (.inr 4)) (also L i) w' (a.tmps[d]?.getD undef)) ∧ Grew W w') Q :=
  Oper.wp_mono (fun a' w' ⟨v, h1, h2, h3⟩ => ⟨v, h1, fun _ _ => h2, fun j d hl hw => (hd j d hl hw).also h3 hi, g.trans h3⟩) h
end
theorem sls_store {Q : Exit → Act → World → Prop} {o : Oper} {a : Act} {w W : World} {L : Nat → Bool} {ops : Array Oper} {c lk i t : Nat} {sh : List (Value ⊕ Nat)}
    (hop : o.op = .store 42 (.tmp 4) (.tmp t)) (hdst : o.dst = none)
    (hd : ∀ j d, L j = true → writes ops j d = true → SLookS c W lk i (sh.getD j (.inr 4)) L w (a.tmps[d]?.getD undef)) (g : Grew W w)
    (h4 : SLookS c W lk i (.inr 3) L w (a.tmps[4]?.getD undef)) (ht : SLookS c W lk i (.inr 2) L w (a.tmps[t]?.getD undef)) (hL : L i = false) (hlk : L lk = true)
    (hone : ((List.range ops.size).all fun j => match sh.getD j (.inr 4) with | .inr 3 => writes ops j 4 | _ => true) = true) (h5 : sh.length = ops.size) (h6 : writes ops i 4 = false) :
    o.wp Try.prog a w (fun a' w' => ∃ v, a' = a.put o.dst v ∧ (∀ d, o.dst = some d → SLookS c W lk i (sh.getD i (.inr 4)) (also L i) w' v) ∧ (∀ j d, L j = true → writes ops j d = true → SLookS c W lk i (sh.getD j (.inr 4)) (also L i) w' (a.tmps[d]?.getD undef)) ∧ Grew W w') Q := by
  obtain ⟨p, e4, hWp, hpl, h4⟩ := h4
  rw [hL, if_neg (by decide)] at h4
  obtain ⟨x0, y0, hblk⟩ := h4
  have h17 : SLayH w (a.tmps[t]?.getD undef) c := ht
  have h17' := h17
  obtain ⟨A, cap, e17, hfb⟩ := h17
  have c0 : w.cell? ⟨p, 0, none⟩ = some x0 := by rw [cell_of_row w p 0 _ _ _ hblk]; rfl
  have c1 : w.cell? ⟨p, 1, none⟩ = some y0 := by rw [cell_of_row w p 1 _ _ _ hblk]; rfl
  have f0 : w.frozen? ⟨p, 0, none⟩ = false := by simp [World.frozen?, hblk]
  have f1 : w.frozen? ⟨p, 1, none⟩ = false := by simp [World.frozen?, hblk]
  obtain ⟨N, hN⟩ : ∃ N, (srfLay c).1 = N := ⟨_, rfl⟩
  obtain ⟨K, hK⟩ : ∃ K, (srfLay c).2.length / 2 = K := ⟨_, rfl⟩
  have e17' := e17
  rw [hN, hK] at e17
  have hF := ((Far.refl (fun x => x = p) w).setCell (p := ⟨p, 0, none⟩) rfl (.int .i64 (N : Nat))).setCell (p := ⟨p, 1, none⟩) rfl (.slice A K cap)
  have hvar : TwoC ((w.setCell ⟨p, 0, none⟩ (.int .i64 (N : Nat))).setCell ⟨p, 1, none⟩ (.slice A K cap)) p (.int .i64 (N : Nat)) (.slice A K cap) := ⟨by simpa using hpl, by simp [go_sem, c0], by simp [go_sem, c1], by simp [go_sem, f0], by simp [go_sem, f1]⟩
  have hg1 : Grew W ((w.setCell ⟨p, 0, none⟩ (.int .i64 (N : Nat))).setCell ⟨p, 1, none⟩ (.slice A K cap)) := (g.setCell hWp _).setCell hWp _
  have hex : (execOp a.eval o).run Try.prog w = .ok .skip ((w.setCell ⟨p, 0, none⟩ (.int .i64 (N : Nat))).setCell ⟨p, 1, none⟩ (.slice A K cap)) := by
    simp [execOp, hop, go_sem, e4, e17, c0, c1, f0, f1]
  generalize (w.setCell ⟨p, 0, none⟩ (.int .i64 (N : Nat))).setCell ⟨p, 1, none⟩ (.slice A K cap) = w1 at *
  have hkept : ∀ (q : Nat) (cs : Array Value), w.heap[q]? = some (.cells cs 47) → w1.heap[q]? = some (.cells cs 47) := fun q cs hq => by
    have hne : ¬ q = p := fun e => by subst e; rw [hblk] at hq; simp at hq
    exact (hF.block q (Array.getElem?_eq_some_iff.1 hq).1 hne).trans hq
  have hlay1 := h17'.kept hkept
  rw [e17', hN, hK] at hlay1
  unfold Oper.wp
  rw [hex]
  refine ⟨undef, by rw [hdst], fun d hd' => (by rw [hdst] at hd'; cases hd'), fun j d hl hwr => ?_, hg1⟩
  have h := hd j d hl hwr
  have h1 := fun q => List.all_eq_true.1 hone j (List.mem_range.2 q)
  have hjs : j < ops.size := by
    unfold writes at hwr
    split at hwr
    · cases hwr
    · exact (Array.getElem?_eq_some_iff.1 ‹_›).1
  replace h1 := h1 hjs
  cases hs : sh.getD j (.inr 4) with
  | inl x => rw [hs] at h; exact h
  | inr n =>
    rw [hs] at h h1
    unfold SLookS at h ⊢
    match n, h, h1 with
    | 0, h, _ =>
      intro hf
      unfold Proofs.Ytjjpfbdcfifofaa.also at hf
      rw [hlk, Bool.or_true] at hf
      cases hf
    | 1, h, _ => obtain ⟨lv, e, hl⟩ := h; exact ⟨lv, e, hl.kept hkept⟩
    | 2, h, _ => exact SLayH.kept h hkept
    | 3, h, h1 =>
      have : d = 4 := by
        unfold writes at hwr h1
        cases hq : ops[j]? with
        | none => rw [hq] at hwr; cases hwr
        | some o' =>
          rw [hq] at hwr h1
          simp only [beq_iff_eq] at hwr h1
          exact Option.some.inj (hwr.symm.trans h1)
      subst this
      refine ⟨p, e4, hWp, hvar.lt, ?_⟩
      rw [if_pos (by unfold Proofs.Ytjjpfbdcfifofaa.also; simp)]
      exact ⟨_, _, hlay1, hvar⟩
    | _ + 4, _, _ => trivial
noncomputable def sdecOps : Array Oper := (Try.f7.body.map (regOps 3)).getD #[]
noncomputable def sdecCode : Code := (Try.f7.body.bind (regCode 3)).getD .skip
def sdecSh (a : Nat) (b o n cap : Nat) : List (Value ⊕ Nat) := [.inr 0, .inl (.slice (some ⟨b, o, none⟩) n cap), .inl (.pointer (some ⟨b, o, none⟩)), .inl (.int .u8 (a : Nat)), .inr 1, .inr 1, .inr 2, .inl (.bool (decide ((srfLay a).1 ≠ 0))), .inr 3, .inr 4, .inl (.bool (decide ((srfLay a).1 ≠ 0)))]
set_option maxRecDepth 1000000 in
set_option maxHeartbeats 8000000 in
theorem sdec_look (a : Nat) (b o n cap : Nat) (W : World) (T : Hid (W.cell? ⟨b, o, none⟩ = some (.int .u8 (a : Nat)))) (hn : 0 < n) (ha : a < 256) (K0 : Act → World → Prop) (t1 t2 t3 t4 t5 t6 t7 t8 t9 t10 t11 t12 t13 t14 t15 t16 t17 t18 t19 t20 t21 t22 t23 t24 t25 t26 t27 t28 t29 t30 t31 t32 t33 t34 t35 t36 t37 t38 t39 t40 t41 t42 t43 t44 t45 t46 t47 t48 t49 t50 t51 t52 t53 : Value)
    (post : ∀ (p : Nat) (x y : Value) (w' : World) (s13 s14 s15 s16 s17 s18 s19 s20 : Value), W.heap.size ≤ p → SLayH w' (.agg #[x, y]) a → TwoC w' p x y → Grew W w' → K0 ⟨#[.slice (some ⟨b, o, none⟩) n cap, t1, t2, t3, .pointer (some ⟨p, 0, none⟩), .bool (decide ((srfLay a).1 ≠ 0)), t6, t7, t8, t9, t10, t11, t12, s13, s14, s15, s16, s17, s18, s19, s20, t21, t22, t23, t24, t25, t26, t27, t28, t29, t30, t31, t32, t33, t34, t35, t36, t37, t38, t39, t40, t41, t42, t43, t44, t45, t46, t47, t48, t49, t50, t51, t52, t53], []⟩ w') :
    Code.wp Try.prog sdecCode (Exit.then K0 fun _ _ _ => False) ⟨#[.slice (some ⟨b, o, none⟩) n cap, t1, t2, t3, t4, t5, t6, t7, t8, t9, t10, t11, t12, t13, t14, t15, t16, t17, t18, t19, t20, t21, t22, t23, t24, t25, t26, t27, t28, t29, t30, t31, t32, t33, t34, t35, t36, t37, t38, t39, t40, t41, t42, t43, t44, t45, t46, t47, t48, t49, t50, t51, t52, t53], []⟩ W := by
  conv => arg 2; whnf
  refine wp_region_fill (n := 54) (ops := sdecOps) (by kernel_rfl) (fun L i w' v => SLookS a W 4 9 ((sdecSh a b o n cap).getD i (.inr 4)) L w' v) ?_ ?_ ?_ ?_ ?_
  case refine_1 => kernel_rfl
  case refine_2 => kernel_rfl
  case refine_3 => rfl
  case refine_5 =>
    intro L c w' hL hdef hsz ho hd g
    obtain ⟨tm, df⟩ := c
    simp only at hdef hsz ho hd
    subst hdef
    obtain ⟨p, e4, hWp, _, h4⟩ := hd 8 4 (by kernel_rfl)
    rw [if_pos (hL 9 (of_decide_eq_true (by kernel_rfl)))] at h4
    obtain ⟨x, y, hlay, hvar⟩ := h4
    have e5 : tm[5]?.getD undef = .bool (decide ((srfLay a).1 ≠ 0)) := hd 10 5 (by kernel_rfl)
    have f0 : tm[0]?.getD undef = .slice (some ⟨b, o, none⟩) n cap := ho 0 (by kernel_rfl)
    have f1 : tm[1]?.getD undef = t1 := ho 1 (by kernel_rfl)
    have f2 : tm[2]?.getD undef = t2 := ho 2 (by kernel_rfl)
    have f3 : tm[3]?.getD undef = t3 := ho 3 (by kernel_rfl)
    have f6 : tm[6]?.getD undef = t6 := ho 6 (by kernel_rfl)
    have f7 : tm[7]?.getD undef = t7 := ho 7 (by kernel_rfl)
    have f8 : tm[8]?.getD undef = t8 := ho 8 (by kernel_rfl)
    have f9 : tm[9]?.getD undef = t9 := ho 9 (by kernel_rfl)
    have f10 : tm[10]?.getD undef = t10 := ho 10 (by kernel_rfl)
    have f11 : tm[11]?.getD undef = t11 := ho 11 (by kernel_rfl)
    have f12 : tm[12]?.getD undef = t12 := ho 12 (by kernel_rfl)
    have f21 : tm[21]?.getD undef = t21 := ho 21 (by kernel_rfl)
    have f22 : tm[22]?.getD undef = t22 := ho 22 (by kernel_rfl)
    have f23 : tm[23]?.getD undef = t23 := ho 23 (by kernel_rfl)
    have f24 : tm[24]?.getD undef = t24 := ho 24 (by kernel_rfl)
    have f25 : tm[25]?.getD undef = t25 := ho 25 (by kernel_rfl)
    have f26 : tm[26]?.getD undef = t26 := ho 26 (by kernel_rfl)
    have f27 : tm[27]?.getD undef = t27 := ho 27 (by kernel_rfl)
    have f28 : tm[28]?.getD undef = t28 := ho 28 (by kernel_rfl)
    have f29 : tm[29]?.getD undef = t29 := ho 29 (by kernel_rfl)
    have f30 : tm[30]?.getD undef = t30 := ho 30 (by kernel_rfl)
    have f31 : tm[31]?.getD undef = t31 := ho 31 (by kernel_rfl)
    have f32 : tm[32]?.getD undef = t32 := ho 32 (by kernel_rfl)
    have f33 : tm[33]?.getD undef = t33 := ho 33 (by kernel_rfl)
    have f34 : tm[34]?.getD undef = t34 := ho 34 (by kernel_rfl)
    have f35 : tm[35]?.getD undef = t35 := ho 35 (by kernel_rfl)
    have f36 : tm[36]?.getD undef = t36 := ho 36 (by kernel_rfl)
    have f37 : tm[37]?.getD undef = t37 := ho 37 (by kernel_rfl)
    have f38 : tm[38]?.getD undef = t38 := ho 38 (by kernel_rfl)
    have f39 : tm[39]?.getD undef = t39 := ho 39 (by kernel_rfl)
    have f40 : tm[40]?.getD undef = t40 := ho 40 (by kernel_rfl)
    have f41 : tm[41]?.getD undef = t41 := ho 41 (by kernel_rfl)
    have f42 : tm[42]?.getD undef = t42 := ho 42 (by kernel_rfl)
    have f43 : tm[43]?.getD undef = t43 := ho 43 (by kernel_rfl)
    have f44 : tm[44]?.getD undef = t44 := ho 44 (by kernel_rfl)
    have f45 : tm[45]?.getD undef = t45 := ho 45 (by kernel_rfl)
    have f46 : tm[46]?.getD undef = t46 := ho 46 (by kernel_rfl)
    have f47 : tm[47]?.getD undef = t47 := ho 47 (by kernel_rfl)
    have f48 : tm[48]?.getD undef = t48 := ho 48 (by kernel_rfl)
    have f49 : tm[49]?.getD undef = t49 := ho 49 (by kernel_rfl)
    have f50 : tm[50]?.getD undef = t50 := ho 50 (by kernel_rfl)
    have f51 : tm[51]?.getD undef = t51 := ho 51 (by kernel_rfl)
    have f52 : tm[52]?.getD undef = t52 := ho 52 (by kernel_rfl)
    have f53 : tm[53]?.getD undef = t53 := ho 53 (by kernel_rfl)
    have e : tm = #[tm[0]?.getD undef, tm[1]?.getD undef, tm[2]?.getD undef, tm[3]?.getD undef, tm[4]?.getD undef, tm[5]?.getD undef, tm[6]?.getD undef, tm[7]?.getD undef, tm[8]?.getD undef, tm[9]?.getD undef, tm[10]?.getD undef, tm[11]?.getD undef, tm[12]?.getD undef, tm[13]?.getD undef, tm[14]?.getD undef, tm[15]?.getD undef, tm[16]?.getD undef, tm[17]?.getD undef, tm[18]?.getD undef, tm[19]?.getD undef, tm[20]?.getD undef, tm[21]?.getD undef, tm[22]?.getD undef, tm[23]?.getD undef, tm[24]?.getD undef, tm[25]?.getD undef, tm[26]?.getD undef, tm[27]?.getD undef, tm[28]?.getD undef, tm[29]?.getD undef, tm[30]?.getD undef, tm[31]?.getD undef, tm[32]?.getD undef, tm[33]?.getD undef, tm[34]?.getD undef, tm[35]?.getD undef, tm[36]?.getD undef, tm[37]?.getD undef, tm[38]?.getD undef, tm[39]?.getD undef, tm[40]?.getD undef, tm[41]?.getD undef, tm[42]?.getD undef, tm[43]?.getD undef, tm[44]?.getD undef, tm[45]?.getD undef, tm[46]?.getD undef, tm[47]?.getD undef, tm[48]?.getD undef, tm[49]?.getD undef, tm[50]?.getD undef, tm[51]?.getD undef, tm[52]?.getD undef, tm[53]?.getD undef] := (arr_getS tm undef hsz).trans (by kernel_rfl)
    rw [e4, e5, f0, f1, f2, f3, f6, f7, f8, f9, f10, f11, f12, f21, f22, f23, f24, f25, f26, f27, f28, f29, f30, f31, f32, f33, f34, f35, f36, f37, f38, f39, f40, f41, f42, f43, f44, f45, f46, f47, f48, f49, f50, f51, f52, f53] at e
    rw [e]
    exact post p x y w' (tm[13]?.getD undef) (tm[14]?.getD undef) (tm[15]?.getD undef) (tm[16]?.getD undef) (tm[17]?.getD undef) (tm[18]?.getD undef) (tm[19]?.getD undef) (tm[20]?.getD undef) hWp hlay hvar g
  simp only [AllFrom]
  refine ⟨?_, ?_, ?_, ?_, ?_, ?_, ?_, ?_, ?_, ?_, ?_, trivial⟩
  · intro L c w' hL ho hw hc hd g
    exact sls_of hd g (by decide) (each_call (f := 15) (args := #[]) (by simp [go_sem]) ((srp_kinds w').mono (by rintro e w'' ⟨v, rfl, hk, g'⟩; exact ⟨_, rfl, fun _ => hk, g'⟩)))
  · intro L c w' hL ho hw hc hd g
    have e0 : c.tmps[0]?.getD undef = .slice (some ⟨b, o, none⟩) n cap := ho 0 (by kernel_rfl)
    refine sls_of hd g (by decide) (each_value (v := .slice (some ⟨b, o, none⟩) n cap) ?_ rfl)
    simp [execOp, go_sem, e0]
  · intro L c w' hL ho hw hc hd g
    have e0 : c.tmps[15]?.getD undef = .slice (some ⟨b, o, none⟩) n cap := hd 1 15 (hw 1 (by kernel_rfl)) (by kernel_rfl)
    refine sls_of hd g (by decide) (each_value (v := .pointer (some ⟨b, o, none⟩)) ?_ rfl)
    simp [execOp, go_sem, e0, hn]
  · intro L c w' hL ho hw hc hd g
    have e0 : c.tmps[16]?.getD undef = .pointer (some ⟨b, o, none⟩) := hd 2 16 (hw 2 (by kernel_rfl)) (by kernel_rfl)
    have hx := (g.cell (p := ⟨b, o, none⟩) (World.block_lt_of_cell? W ⟨b, o, none⟩ T.out)).trans T.out
    refine sls_of hd g (by decide) (each_value (v := .int .u8 (a : Nat)) ?_ rfl)
    simp [execOp, go_sem, e0, hx]
  · intro L c w' hL ho hw hc hd g
    have hk : SKindsAt w' (c.tmps[14]?.getD undef) := hd 0 14 (hw 0 (by kernel_rfl)) (by kernel_rfl) hL
    have e2 : c.eval (.tmp 17) = .int .u8 (a : Nat) := by
      have : c.tmps[17]?.getD undef = .int .u8 (a : Nat) := hd 3 17 (hw 3 (by kernel_rfl)) (by kernel_rfl)
      simpa [go_sem] using this
    have e1 : c.eval (.tmp 14) = c.tmps[14]?.getD undef := by simp [go_sem]
    obtain ⟨lv, hrun, hl⟩ := skinds_look w' _ hk a ha
    refine sls_of hd g (by decide) (each_value (v := .tuple #[lv, .bool (decide ((srfLay a).1 ≠ 0))]) ?_ ⟨lv, rfl, hl⟩)
    simp only [execOp, e1, e2, Sem.run_bind, hrun, Result.andThen_ok, Sem.run_pure]
  · intro L c w' hL ho hw hc hd g
    obtain ⟨lv, e1, hl⟩ : ∃ lv, c.tmps[18]?.getD undef = .tuple #[lv, .bool (decide ((srfLay a).1 ≠ 0))] ∧ SLayH w' lv a := hd 4 18 (hw 4 (by kernel_rfl)) (by kernel_rfl)
    refine sls_of hd g (by decide) (each_value (v := .tuple #[lv, .bool (decide ((srfLay a).1 ≠ 0))]) ?_ ⟨lv, rfl, hl⟩)
    simp [execOp, go_sem, e1]
  · intro L c w' hL ho hw hc hd g
    obtain ⟨lv, e1, hl⟩ : ∃ lv, c.tmps[13]?.getD undef = .tuple #[lv, .bool (decide ((srfLay a).1 ≠ 0))] ∧ SLayH w' lv a := hd 5 13 (hw 5 (by kernel_rfl)) (by kernel_rfl)
    refine sls_of hd g (by decide) (each_value (v := lv) ?_ hl)
    simp [execOp, go_sem, e1]
  · intro L c w' hL ho hw hc hd g
    obtain ⟨lv, e1, hl⟩ : ∃ lv, c.tmps[13]?.getD undef = .tuple #[lv, .bool (decide ((srfLay a).1 ≠ 0))] ∧ SLayH w' lv a := hd 5 13 (hw 5 (by kernel_rfl)) (by kernel_rfl)
    refine sls_of hd g (by decide) (each_value (v := .bool (decide ((srfLay a).1 ≠ 0))) ?_ rfl)
    simp [execOp, go_sem, e1]
  · intro L c w' hL ho hw hc hd g
    have hn : L 9 = false := by
      cases q : L 9 with
      | false => rfl
      | true => have := hc 9 8 q (by kernel_rfl); rw [hL] at this; cases this
    refine sls_of hd g (by decide) (each_made (v := .pointer (some ⟨w'.heap.size, 0, none⟩)) (w1 := w'.alloc (.cells #[.int .i64 0, .slice none 0 0] 42)) ?_ ((Grew.refl _).alloc _) ⟨_, rfl, g.size, by simp, ?_⟩)
    · simp [execOp, go_sem]
    · rw [also_ne (by decide), hn, if_neg (by decide)]
      exact ⟨_, _, heap_alloc_new _ _⟩
  · intro L c w' hL ho hw hc hd g
    exact sls_store (ops := sdecOps) (sh := sdecSh a b o n cap) (t := 19) rfl rfl hd g (hd 8 4 (hw 8 (by kernel_rfl)) (by kernel_rfl)) (hd 6 19 (hw 6 (by kernel_rfl)) (by kernel_rfl)) hL (hw 4 (by kernel_rfl)) (by kernel_rfl) (by kernel_rfl) (by kernel_rfl)
  · intro L c w' hL ho hw hc hd g
    have e1 : c.tmps[20]?.getD undef = .bool (decide ((srfLay a).1 ≠ 0)) := hd 7 20 (hw 7 (by kernel_rfl)) (by kernel_rfl)
    refine sls_of hd g (by decide) (each_value (v := .bool (decide ((srfLay a).1 ≠ 0))) ?_ rfl)
    simp [execOp, go_sem, e1]
noncomputable def spayOps : Array Oper := (Try.f10.body.map (regOps 1)).getD #[]
noncomputable def spayCode : Code := (Try.f10.body.bind (regCode 1)).getD .skip
def spaySh (a : Nat) (ab : Nat) : List (Value ⊕ Nat) := [.inr 0, .inl (.pointer (some ⟨ab, 0, none⟩)), .inl (.int .u8 (a : Nat)), .inr 1, .inr 1, .inr 2, .inl (.bool (decide ((srfLay a).1 ≠ 0))), .inr 3, .inr 4, .inl (.bool (decide ((srfLay a).1 ≠ 0)))]
set_option maxRecDepth 1000000 in
set_option maxHeartbeats 8000000 in
theorem spay_look (a : Nat) (ab : Nat) (W : World) (sv : Value) (T : Hid (TwoC W ab (.int .u8 (a : Nat)) sv)) (ha : a < 256) (K0 : Act → World → Prop) (t0 t2 t3 t4 t5 t6 t7 t8 t9 t10 t11 t12 t13 t14 t15 t16 t17 t18 t19 t20 t21 t22 t23 t24 t25 t26 t27 t28 t29 t30 t31 t32 t33 t34 t35 t36 t37 t38 t39 t40 t41 t42 t43 t44 t45 t46 t47 t48 t49 t50 t51 t52 t53 t54 t55 t56 t57 t58 : Value)
    (post : ∀ (p : Nat) (x y : Value) (w' : World) (s9 s10 s11 s12 s13 s14 s15 : Value), W.heap.size ≤ p → SLayH w' (.agg #[x, y]) a → TwoC w' p x y → Grew W w' → K0 ⟨#[t0, .pointer (some ⟨ab, 0, none⟩), t2, t3, .pointer (some ⟨p, 0, none⟩), .bool (decide ((srfLay a).1 ≠ 0)), t6, t7, t8, s9, s10, s11, s12, s13, s14, s15, t16, t17, t18, t19, t20, t21, t22, t23, t24, t25, t26, t27, t28, t29, t30, t31, t32, t33, t34, t35, t36, t37, t38, t39, t40, t41, t42, t43, t44, t45, t46, t47, t48, t49, t50, t51, t52, t53, t54, t55, t56, t57, t58], []⟩ w') :
    Code.wp Try.prog spayCode (Exit.then K0 fun _ _ _ => False) ⟨#[t0, .pointer (some ⟨ab, 0, none⟩), t2, t3, t4, t5, t6, t7, t8, t9, t10, t11, t12, t13, t14, t15, t16, t17, t18, t19, t20, t21, t22, t23, t24, t25, t26, t27, t28, t29, t30, t31, t32, t33, t34, t35, t36, t37, t38, t39, t40, t41, t42, t43, t44, t45, t46, t47, t48, t49, t50, t51, t52, t53, t54, t55, t56, t57, t58], []⟩ W := by
  conv => arg 2; whnf
  refine wp_region_fill (n := 59) (ops := spayOps) (by kernel_rfl) (fun L i w' v => SLookS a W 3 8 ((spaySh a ab).getD i (.inr 4)) L w' v) ?_ ?_ ?_ ?_ ?_
  case refine_1 => kernel_rfl
  case refine_2 => kernel_rfl
  case refine_3 => rfl
  case refine_5 =>
    intro L c w' hL hdef hsz ho hd g
    obtain ⟨tm, df⟩ := c
    simp only at hdef hsz ho hd
    subst hdef
    obtain ⟨p, e4, hWp, _, h4⟩ := hd 7 4 (by kernel_rfl)
    rw [if_pos (hL 8 (of_decide_eq_true (by kernel_rfl)))] at h4
    obtain ⟨x, y, hlay, hvar⟩ := h4
    have e5 : tm[5]?.getD undef = .bool (decide ((srfLay a).1 ≠ 0)) := hd 9 5 (by kernel_rfl)
    have f0 : tm[0]?.getD undef = t0 := ho 0 (by kernel_rfl)
    have f1 : tm[1]?.getD undef = .pointer (some ⟨ab, 0, none⟩) := ho 1 (by kernel_rfl)
    have f2 : tm[2]?.getD undef = t2 := ho 2 (by kernel_rfl)
    have f3 : tm[3]?.getD undef = t3 := ho 3 (by kernel_rfl)
    have f6 : tm[6]?.getD undef = t6 := ho 6 (by kernel_rfl)
    have f7 : tm[7]?.getD undef = t7 := ho 7 (by kernel_rfl)
    have f8 : tm[8]?.getD undef = t8 := ho 8 (by kernel_rfl)
    have f16 : tm[16]?.getD undef = t16 := ho 16 (by kernel_rfl)
    have f17 : tm[17]?.getD undef = t17 := ho 17 (by kernel_rfl)
    have f18 : tm[18]?.getD undef = t18 := ho 18 (by kernel_rfl)
    have f19 : tm[19]?.getD undef = t19 := ho 19 (by kernel_rfl)
    have f20 : tm[20]?.getD undef = t20 := ho 20 (by kernel_rfl)
    have f21 : tm[21]?.getD undef = t21 := ho 21 (by kernel_rfl)
    have f22 : tm[22]?.getD undef = t22 := ho 22 (by kernel_rfl)
    have f23 : tm[23]?.getD undef = t23 := ho 23 (by kernel_rfl)
    have f24 : tm[24]?.getD undef = t24 := ho 24 (by kernel_rfl)
    have f25 : tm[25]?.getD undef = t25 := ho 25 (by kernel_rfl)
    have f26 : tm[26]?.getD undef = t26 := ho 26 (by kernel_rfl)
    have f27 : tm[27]?.getD undef = t27 := ho 27 (by kernel_rfl)
    have f28 : tm[28]?.getD undef = t28 := ho 28 (by kernel_rfl)
    have f29 : tm[29]?.getD undef = t29 := ho 29 (by kernel_rfl)
    have f30 : tm[30]?.getD undef = t30 := ho 30 (by kernel_rfl)
    have f31 : tm[31]?.getD undef = t31 := ho 31 (by kernel_rfl)
    have f32 : tm[32]?.getD undef = t32 := ho 32 (by kernel_rfl)
    have f33 : tm[33]?.getD undef = t33 := ho 33 (by kernel_rfl)
    have f34 : tm[34]?.getD undef = t34 := ho 34 (by kernel_rfl)
    have f35 : tm[35]?.getD undef = t35 := ho 35 (by kernel_rfl)
    have f36 : tm[36]?.getD undef = t36 := ho 36 (by kernel_rfl)
    have f37 : tm[37]?.getD undef = t37 := ho 37 (by kernel_rfl)
    have f38 : tm[38]?.getD undef = t38 := ho 38 (by kernel_rfl)
    have f39 : tm[39]?.getD undef = t39 := ho 39 (by kernel_rfl)
    have f40 : tm[40]?.getD undef = t40 := ho 40 (by kernel_rfl)
    have f41 : tm[41]?.getD undef = t41 := ho 41 (by kernel_rfl)
    have f42 : tm[42]?.getD undef = t42 := ho 42 (by kernel_rfl)
    have f43 : tm[43]?.getD undef = t43 := ho 43 (by kernel_rfl)
    have f44 : tm[44]?.getD undef = t44 := ho 44 (by kernel_rfl)
    have f45 : tm[45]?.getD undef = t45 := ho 45 (by kernel_rfl)
    have f46 : tm[46]?.getD undef = t46 := ho 46 (by kernel_rfl)
    have f47 : tm[47]?.getD undef = t47 := ho 47 (by kernel_rfl)
    have f48 : tm[48]?.getD undef = t48 := ho 48 (by kernel_rfl)
    have f49 : tm[49]?.getD undef = t49 := ho 49 (by kernel_rfl)
    have f50 : tm[50]?.getD undef = t50 := ho 50 (by kernel_rfl)
    have f51 : tm[51]?.getD undef = t51 := ho 51 (by kernel_rfl)
    have f52 : tm[52]?.getD undef = t52 := ho 52 (by kernel_rfl)
    have f53 : tm[53]?.getD undef = t53 := ho 53 (by kernel_rfl)
    have f54 : tm[54]?.getD undef = t54 := ho 54 (by kernel_rfl)
    have f55 : tm[55]?.getD undef = t55 := ho 55 (by kernel_rfl)
    have f56 : tm[56]?.getD undef = t56 := ho 56 (by kernel_rfl)
    have f57 : tm[57]?.getD undef = t57 := ho 57 (by kernel_rfl)
    have f58 : tm[58]?.getD undef = t58 := ho 58 (by kernel_rfl)
    have e : tm = #[tm[0]?.getD undef, tm[1]?.getD undef, tm[2]?.getD undef, tm[3]?.getD undef, tm[4]?.getD undef, tm[5]?.getD undef, tm[6]?.getD undef, tm[7]?.getD undef, tm[8]?.getD undef, tm[9]?.getD undef, tm[10]?.getD undef, tm[11]?.getD undef, tm[12]?.getD undef, tm[13]?.getD undef, tm[14]?.getD undef, tm[15]?.getD undef, tm[16]?.getD undef, tm[17]?.getD undef, tm[18]?.getD undef, tm[19]?.getD undef, tm[20]?.getD undef, tm[21]?.getD undef, tm[22]?.getD undef, tm[23]?.getD undef, tm[24]?.getD undef, tm[25]?.getD undef, tm[26]?.getD undef, tm[27]?.getD undef, tm[28]?.getD undef, tm[29]?.getD undef, tm[30]?.getD undef, tm[31]?.getD undef, tm[32]?.getD undef, tm[33]?.getD undef, tm[34]?.getD undef, tm[35]?.getD undef, tm[36]?.getD undef, tm[37]?.getD undef, tm[38]?.getD undef, tm[39]?.getD undef, tm[40]?.getD undef, tm[41]?.getD undef, tm[42]?.getD undef, tm[43]?.getD undef, tm[44]?.getD undef, tm[45]?.getD undef, tm[46]?.getD undef, tm[47]?.getD undef, tm[48]?.getD undef, tm[49]?.getD undef, tm[50]?.getD undef, tm[51]?.getD undef, tm[52]?.getD undef, tm[53]?.getD undef, tm[54]?.getD undef, tm[55]?.getD undef, tm[56]?.getD undef, tm[57]?.getD undef, tm[58]?.getD undef] := (arr_getS tm undef hsz).trans (by kernel_rfl)
    rw [e4, e5, f0, f1, f2, f3, f6, f7, f8, f16, f17, f18, f19, f20, f21, f22, f23, f24, f25, f26, f27, f28, f29, f30, f31, f32, f33, f34, f35, f36, f37, f38, f39, f40, f41, f42, f43, f44, f45, f46, f47, f48, f49, f50, f51, f52, f53, f54, f55, f56, f57, f58] at e
    rw [e]
    exact post p x y w' (tm[9]?.getD undef) (tm[10]?.getD undef) (tm[11]?.getD undef) (tm[12]?.getD undef) (tm[13]?.getD undef) (tm[14]?.getD undef) (tm[15]?.getD undef) hWp hlay hvar g
  simp only [AllFrom]
  refine ⟨?_, ?_, ?_, ?_, ?_, ?_, ?_, ?_, ?_, ?_, trivial⟩
  · intro L c w' hL ho hw hc hd g
    exact sls_of hd g (by decide) (each_call (f := 15) (args := #[]) (by simp [go_sem]) ((srp_kinds w').mono (by rintro e w'' ⟨v, rfl, hk, g'⟩; exact ⟨_, rfl, fun _ => hk, g'⟩)))
  · intro L c w' hL ho hw hc hd g
    have e0 : c.tmps[1]?.getD undef = .pointer (some ⟨ab, 0, none⟩) := ho 1 (by kernel_rfl)
    refine sls_of hd g (by decide) (each_value (v := .pointer (some ⟨ab, 0, none⟩)) ?_ rfl)
    simp [execOp, go_sem, e0]
  · intro L c w' hL ho hw hc hd g
    have e0 : c.tmps[11]?.getD undef = .pointer (some ⟨ab, 0, none⟩) := hd 1 11 (hw 1 (by kernel_rfl)) (by kernel_rfl)
    have hx := (T.out.grew g).c0
    refine sls_of hd g (by decide) (each_value (v := .int .u8 (a : Nat)) ?_ rfl)
    simp [execOp, go_sem, e0, hx]
  · intro L c w' hL ho hw hc hd g
    have hk : SKindsAt w' (c.tmps[10]?.getD undef) := hd 0 10 (hw 0 (by kernel_rfl)) (by kernel_rfl) hL
    have e2 : c.eval (.tmp 12) = .int .u8 (a : Nat) := by
      have : c.tmps[12]?.getD undef = .int .u8 (a : Nat) := hd 2 12 (hw 2 (by kernel_rfl)) (by kernel_rfl)
      simpa [go_sem] using this
    have e1 : c.eval (.tmp 10) = c.tmps[10]?.getD undef := by simp [go_sem]
    obtain ⟨lv, hrun, hl⟩ := skinds_look w' _ hk a ha
    refine sls_of hd g (by decide) (each_value (v := .tuple #[lv, .bool (decide ((srfLay a).1 ≠ 0))]) ?_ ⟨lv, rfl, hl⟩)
    simp only [execOp, e1, e2, Sem.run_bind, hrun, Result.andThen_ok, Sem.run_pure]
  · intro L c w' hL ho hw hc hd g
    obtain ⟨lv, e1, hl⟩ : ∃ lv, c.tmps[13]?.getD undef = .tuple #[lv, .bool (decide ((srfLay a).1 ≠ 0))] ∧ SLayH w' lv a := hd 3 13 (hw 3 (by kernel_rfl)) (by kernel_rfl)
    refine sls_of hd g (by decide) (each_value (v := .tuple #[lv, .bool (decide ((srfLay a).1 ≠ 0))]) ?_ ⟨lv, rfl, hl⟩)
    simp [execOp, go_sem, e1]
  · intro L c w' hL ho hw hc hd g
    obtain ⟨lv, e1, hl⟩ : ∃ lv, c.tmps[9]?.getD undef = .tuple #[lv, .bool (decide ((srfLay a).1 ≠ 0))] ∧ SLayH w' lv a := hd 4 9 (hw 4 (by kernel_rfl)) (by kernel_rfl)
    refine sls_of hd g (by decide) (each_value (v := lv) ?_ hl)
    simp [execOp, go_sem, e1]
  · intro L c w' hL ho hw hc hd g
    obtain ⟨lv, e1, hl⟩ : ∃ lv, c.tmps[9]?.getD undef = .tuple #[lv, .bool (decide ((srfLay a).1 ≠ 0))] ∧ SLayH w' lv a := hd 4 9 (hw 4 (by kernel_rfl)) (by kernel_rfl)
    refine sls_of hd g (by decide) (each_value (v := .bool (decide ((srfLay a).1 ≠ 0))) ?_ rfl)
    simp [execOp, go_sem, e1]
  · intro L c w' hL ho hw hc hd g
    have hn : L 8 = false := by
      cases q : L 8 with
      | false => rfl
      | true => have := hc 8 7 q (by kernel_rfl); rw [hL] at this; cases this
    refine sls_of hd g (by decide) (each_made (v := .pointer (some ⟨w'.heap.size, 0, none⟩)) (w1 := w'.alloc (.cells #[.int .i64 0, .slice none 0 0] 42)) ?_ ((Grew.refl _).alloc _) ⟨_, rfl, g.size, by simp, ?_⟩)
    · simp [execOp, go_sem]
    · rw [also_ne (by decide), hn, if_neg (by decide)]
      exact ⟨_, _, heap_alloc_new _ _⟩
  · intro L c w' hL ho hw hc hd g
    exact sls_store (ops := spayOps) (sh := spaySh a ab) (t := 14) rfl rfl hd g (hd 7 4 (hw 7 (by kernel_rfl)) (by kernel_rfl)) (hd 5 14 (hw 5 (by kernel_rfl)) (by kernel_rfl)) hL (hw 3 (by kernel_rfl)) (by kernel_rfl) (by kernel_rfl) (by kernel_rfl)
  · intro L c w' hL ho hw hc hd g
    have e1 : c.tmps[15]?.getD undef = .bool (decide ((srfLay a).1 ≠ 0)) := hd 6 15 (hw 6 (by kernel_rfl)) (by kernel_rfl)
    refine sls_of hd g (by decide) (each_value (v := .bool (decide ((srfLay a).1 ≠ 0))) ?_ rfl)
    simp [execOp, go_sem, e1]
end Go.Proofs.Ytjjpfbdcfifofaa
