/-
  The program's SiRF messages: a kind looked up, whatever comes up first.
  The program's SiRF messages: a payload read.
  The program's dialogue: two rows of numbers compared; what an id says.
  The program's region that calls Decode of UBX and keeps what it tells in a variable, whatever comes up first.
  The program's dialogue: what a frame says of a command: the two closures.
  The program's dialogue: what a UBX frame says of a command.
  The program's dialogue: the map of closures: it is made; one is looked up.
-/
import Derived.Test.YtcdmbnbanopioaaGreatDoorP05
import Derived.Test.YtcdmbnbanopioaaGreatDoorP03
import Derived.OwnWalk
import Derived.Test.YtcdmbnbanopioaaGreatDoorP04

namespace Go.Proofs.YtcdmbnbanopioaaGreatDoor
open Go.RowKit
set_option linter.unusedVariables false

/- The program's SiRF messages: a kind looked up, whatever comes up first. -/
/-- What an operation of the look-up leaves: a value (inl); the table (0), the tuple (1), the layout (2), the variable (3). -/
def SLookS (c : Nat) (W : World) (lk st : Nat) (s : Value ⊕ Nat) (L : Nat → Bool) (w : World) (v : Value) : Prop :=
  match s with
  | .inl x => v = x
  | .inr 0 => L lk = false → SKindsAt w v
  | .inr 1 => ∃ lv, v = .tuple #[lv, .bool (decide ((srfLay c).1 ≠ 0))] ∧ SLayH w lv c
  | .inr 2 => SLayH w v c
  | .inr 3 => ∃ p, v = .pointer (some ⟨p, 0, none⟩) ∧ W.heap.size ≤ p ∧ p < w.heap.size ∧ (if L st = true then ∃ x y, SLayH w (.agg #[x, y]) c ∧ TwoC w p x y else ∃ x y, w.heap[p]? = some (.cells #[x, y] 120))
  | .inr _ => True
theorem slayH_grew {w w' : World} {v : Value} {c : Nat} (h : SLayH w v c) (g : Grew w w') : SLayH w' v c := h.kept fun b cs hb => (Below.block g b (Array.getElem?_eq_some_iff.1 hb).1).trans hb
theorem SLookS.also {c : Nat} {W : World} {lk st : Nat} {s : Value ⊕ Nat} {L : Nat → Bool} {j : Nat} {w w' : World} {v : Value} (h : SLookS c W lk st s L w v) (g : Grew w w') (hj : j ≠ st) : SLookS c W lk st s (also L j) w' v := by
  unfold SLookS at h ⊢
  split at h
  · exact h
  · intro hf
    have : L lk = false := by unfold Proofs.YtcdmbnbanopioaaGreatDoor.also at hf; cases q : L lk with | false => rfl | true => rw [q, Bool.or_true] at hf; cases hf
    exact (h this).grew g
  · obtain ⟨lv, e, hl⟩ := h; exact ⟨lv, e, slayH_grew hl g⟩
  · exact slayH_grew h g
  · obtain ⟨p, e, h1, h2, h3⟩ := h
    refine ⟨p, e, h1, Nat.lt_of_lt_of_le h2 g.size, ?_⟩
    rw [also_ne (by omega)]
    split at h3
    · rename_i q
      rw [if_pos q]
      obtain ⟨x, y, k1, k2⟩ := h3
      exact ⟨x, y, slayH_grew k1 g, k2.grew g⟩
    · rename_i q
      rw [if_neg q]
      obtain ⟨x, y, k1⟩ := h3
      exact ⟨x, y, (Below.block g p h2).trans k1⟩
  · trivial
section
variable {P : Program} {Q : Exit → Act → World → Prop} {o : Oper} {a : Act} {w W : World} {L : Nat → Bool} {ops : Array Oper} {i c lk st : Nat} {sh : List (Value ⊕ Nat)}
theorem sls_of (hd : ∀ j d, L j = true → writes ops j d = true → SLookS c W lk st (sh.getD j (.inr 4)) L w (a.tmps[d]?.getD undef)) (g : Grew W w) (hi : i ≠ st)
    (h : o.wp P a w (fun a' w'' => ∃ v, a' = a.put o.dst v ∧ SLookS c W lk st (sh.getD i (.inr 4)) (also L i) w'' v ∧ Grew w w'') Q) :
    o.wp P a w (fun a' w' => ∃ v, a' = a.put o.dst v ∧ (∀ d, o.dst = some d → SLookS c W lk st (sh.getD i (.inr 4)) (also L i) w' v) ∧ (∀ j d, L j = true → writes ops j d = true → SLookS c W lk st (sh.getD j (.inr 4)) (also L i) w' (a.tmps[d]?.getD undef)) ∧ Grew W w') Q :=
  Oper.wp_mono (fun a' w' ⟨v, h1, h2, h3⟩ => ⟨v, h1, fun _ _ => h2, fun j d hl hw => (hd j d hl hw).also h3 hi, g.trans h3⟩) h
end
theorem sls_store {Q : Exit → Act → World → Prop} {o : Oper} {a : Act} {w W : World} {L : Nat → Bool} {ops : Array Oper} {c lk i t : Nat} {sh : List (Value ⊕ Nat)}
    (hop : o.op = .store 120 (.tmp 4) (.tmp t)) (hdst : o.dst = none)
    (hd : ∀ j d, L j = true → writes ops j d = true → SLookS c W lk i (sh.getD j (.inr 4)) L w (a.tmps[d]?.getD undef)) (g : Grew W w)
    (h4 : SLookS c W lk i (.inr 3) L w (a.tmps[4]?.getD undef)) (ht : SLookS c W lk i (.inr 2) L w (a.tmps[t]?.getD undef)) (hL : L i = false) (hlk : L lk = true)
    (hone : ((List.range ops.size).all fun j => match sh.getD j (.inr 4) with | .inr 3 => writes ops j 4 | _ => true) = true) (h5 : sh.length = ops.size) (h6 : writes ops i 4 = false) :
    o.wp Tryz.prog a w (fun a' w' => ∃ v, a' = a.put o.dst v ∧ (∀ d, o.dst = some d → SLookS c W lk i (sh.getD i (.inr 4)) (also L i) w' v) ∧ (∀ j d, L j = true → writes ops j d = true → SLookS c W lk i (sh.getD j (.inr 4)) (also L i) w' (a.tmps[d]?.getD undef)) ∧ Grew W w') Q := by
  obtain ⟨p, e4, hWp, hpl, h4⟩ := h4
  rw [hL, if_neg (by decide)] at h4
  obtain ⟨x0, y0, hblk⟩ := h4
  have h17 : SLayH w (a.tmps[t]?.getD undef) c := ht
  have h17' := h17
  obtain ⟨A, cap, e17, hfb⟩ := h17
  have c0 : w.cell? ⟨p, 0, none⟩ = some x0 := by rw [cell_of_row w p 0 _ _ _ hblk]; rfl
  have c1 : w.cell? ⟨p, 1, none⟩ = some y0 := by rw [cell_of_row w p 1 _ _ _ hblk]; rfl
  have f0 : w.frozen? ⟨p, 0, none⟩ = false := by simp [World.frozen?, hblk]
  have f1 : w.frozen? ⟨p, 1, none⟩ = false := by simp [World.frozen?, hblk]
  obtain ⟨N, hN⟩ : ∃ N, (srfLay c).1 = N := ⟨_, rfl⟩
  obtain ⟨K, hK⟩ : ∃ K, (srfLay c).2.length / 2 = K := ⟨_, rfl⟩
  have e17' := e17
  rw [hN, hK] at e17
  have hF := ((Far.refl (fun x => x = p) w).setCell (p := ⟨p, 0, none⟩) rfl (.int .i64 (N : Nat))).setCell (p := ⟨p, 1, none⟩) rfl (.slice A K cap)
  have hvar : TwoC ((w.setCell ⟨p, 0, none⟩ (.int .i64 (N : Nat))).setCell ⟨p, 1, none⟩ (.slice A K cap)) p (.int .i64 (N : Nat)) (.slice A K cap) := ⟨by simpa using hpl, by simp [go_sem, c0], by simp [go_sem, c1], by simp [go_sem, f0], by simp [go_sem, f1]⟩
  have hg1 : Grew W ((w.setCell ⟨p, 0, none⟩ (.int .i64 (N : Nat))).setCell ⟨p, 1, none⟩ (.slice A K cap)) := (g.setCell hWp _).setCell hWp _
  have hex : (execOp a.eval o).run Tryz.prog w = .ok .skip ((w.setCell ⟨p, 0, none⟩ (.int .i64 (N : Nat))).setCell ⟨p, 1, none⟩ (.slice A K cap)) := by
    simp [execOp, hop, go_sem, e4, e17, c0, c1, f0, f1]
  generalize (w.setCell ⟨p, 0, none⟩ (.int .i64 (N : Nat))).setCell ⟨p, 1, none⟩ (.slice A K cap) = w1 at *
  have hkept : ∀ (q : Nat) (cs : Array Value), w.heap[q]? = some (.cells cs 125) → w1.heap[q]? = some (.cells cs 125) := fun q cs hq => by
    have hne : ¬ q = p := fun e => by subst e; rw [hblk] at hq; simp at hq
    exact (hF.block q (Array.getElem?_eq_some_iff.1 hq).1 hne).trans hq
  have hlay1 := h17'.kept hkept
  rw [e17', hN, hK] at hlay1
  unfold Oper.wp
  rw [hex]
  refine ⟨undef, by rw [hdst], fun d hd' => (by rw [hdst] at hd'; cases hd'), fun j d hl hwr => ?_, hg1⟩
  have h := hd j d hl hwr
  have h1 := fun q => List.all_eq_true.1 hone j (List.mem_range.2 q)
  have hjs : j < ops.size := by
    unfold writes at hwr
    split at hwr
    · cases hwr
    · exact (Array.getElem?_eq_some_iff.1 ‹_›).1
  replace h1 := h1 hjs
  cases hs : sh.getD j (.inr 4) with
  | inl x => rw [hs] at h; exact h
  | inr n =>
    rw [hs] at h h1
    unfold SLookS at h ⊢
    match n, h, h1 with
    | 0, h, _ =>
      intro hf
      unfold Proofs.YtcdmbnbanopioaaGreatDoor.also at hf
      rw [hlk, Bool.or_true] at hf
      cases hf
    | 1, h, _ => obtain ⟨lv, e, hl⟩ := h; exact ⟨lv, e, hl.kept hkept⟩
    | 2, h, _ => exact SLayH.kept h hkept
    | 3, h, h1 =>
      have : d = 4 := by
        unfold writes at hwr h1
        cases hq : ops[j]? with
        | none => rw [hq] at hwr; cases hwr
        | some o' =>
          rw [hq] at hwr h1
          simp only [beq_iff_eq] at hwr h1
          exact Option.some.inj (hwr.symm.trans h1)
      subst this
      refine ⟨p, e4, hWp, hvar.lt, ?_⟩
      rw [if_pos (by unfold Proofs.YtcdmbnbanopioaaGreatDoor.also; simp)]
      exact ⟨_, _, hlay1, hvar⟩
    | _ + 4, _, _ => trivial
noncomputable def sdecOps : Array Oper := (Tryz.f61.body.map (regOps 3)).getD #[]
noncomputable def sdecCode : Code := (Tryz.f61.body.bind (regCode 3)).getD .skip
def sdecSh (a : Nat) (b o n cap : Nat) : List (Value ⊕ Nat) := [.inr 0, .inl (.slice (some ⟨b, o, none⟩) n cap), .inl (.pointer (some ⟨b, o, none⟩)), .inl (.int .u8 (a : Nat)), .inr 1, .inr 1, .inr 2, .inl (.bool (decide ((srfLay a).1 ≠ 0))), .inr 3, .inr 4, .inl (.bool (decide ((srfLay a).1 ≠ 0)))]
set_option maxRecDepth 1000000 in
set_option maxHeartbeats 8000000 in
theorem sdec_look (a : Nat) (b o n cap : Nat) (W : World) (T : Hid (W.cell? ⟨b, o, none⟩ = some (.int .u8 (a : Nat)))) (hn : 0 < n) (ha : a < 256) (K0 : Act → World → Prop) (t1 t2 t3 t4 t5 t6 t7 t8 t9 t10 t11 t12 t13 t14 t15 t16 t17 t18 t19 t20 t21 t22 t23 t24 t25 t26 t27 t28 t29 t30 t31 t32 t33 t34 t35 t36 t37 t38 t39 t40 t41 t42 t43 t44 t45 t46 t47 t48 t49 t50 t51 t52 t53 : Value)
    (post : ∀ (p : Nat) (x y : Value) (w' : World) (s13 s14 s15 s16 s17 s18 s19 s20 : Value), W.heap.size ≤ p → SLayH w' (.agg #[x, y]) a → TwoC w' p x y → Grew W w' → K0 ⟨#[.slice (some ⟨b, o, none⟩) n cap, t1, t2, t3, .pointer (some ⟨p, 0, none⟩), .bool (decide ((srfLay a).1 ≠ 0)), t6, t7, t8, t9, t10, t11, t12, s13, s14, s15, s16, s17, s18, s19, s20, t21, t22, t23, t24, t25, t26, t27, t28, t29, t30, t31, t32, t33, t34, t35, t36, t37, t38, t39, t40, t41, t42, t43, t44, t45, t46, t47, t48, t49, t50, t51, t52, t53], []⟩ w') :
    Code.wp Tryz.prog sdecCode (Exit.then K0 fun _ _ _ => False) ⟨#[.slice (some ⟨b, o, none⟩) n cap, t1, t2, t3, t4, t5, t6, t7, t8, t9, t10, t11, t12, t13, t14, t15, t16, t17, t18, t19, t20, t21, t22, t23, t24, t25, t26, t27, t28, t29, t30, t31, t32, t33, t34, t35, t36, t37, t38, t39, t40, t41, t42, t43, t44, t45, t46, t47, t48, t49, t50, t51, t52, t53], []⟩ W := by
  conv => arg 2; whnf
  refine wp_region_fill (n := 54) (ops := sdecOps) (by kernel_rfl) (fun L i w' v => SLookS a W 4 9 ((sdecSh a b o n cap).getD i (.inr 4)) L w' v) ?_ ?_ ?_ ?_ ?_
  case refine_1 => kernel_rfl
  case refine_2 => kernel_rfl
  case refine_3 => rfl
  case refine_5 =>
    intro L c w' hL hdef hsz ho hd g
    obtain ⟨tm, df⟩ := c
    simp only at hdef hsz ho hd
    subst hdef
    obtain ⟨p, e4, hWp, _, h4⟩ := hd 8 4 (by kernel_rfl)
    rw [if_pos (hL 9 (of_decide_eq_true (by kernel_rfl)))] at h4
    obtain ⟨x, y, hlay, hvar⟩ := h4
    have e5 : tm[5]?.getD undef = .bool (decide ((srfLay a).1 ≠ 0)) := hd 10 5 (by kernel_rfl)
    have f0 : tm[0]?.getD undef = .slice (some ⟨b, o, none⟩) n cap := ho 0 (by kernel_rfl)
    have f1 : tm[1]?.getD undef = t1 := ho 1 (by kernel_rfl)
    have f2 : tm[2]?.getD undef = t2 := ho 2 (by kernel_rfl)
    have f3 : tm[3]?.getD undef = t3 := ho 3 (by kernel_rfl)
    have f6 : tm[6]?.getD undef = t6 := ho 6 (by kernel_rfl)
    have f7 : tm[7]?.getD undef = t7 := ho 7 (by kernel_rfl)
    have f8 : tm[8]?.getD undef = t8 := ho 8 (by kernel_rfl)
    have f9 : tm[9]?.getD undef = t9 := ho 9 (by kernel_rfl)
    have f10 : tm[10]?.getD undef = t10 := ho 10 (by kernel_rfl)
    have f11 : tm[11]?.getD undef = t11 := ho 11 (by kernel_rfl)
    have f12 : tm[12]?.getD undef = t12 := ho 12 (by kernel_rfl)
    have f21 : tm[21]?.getD undef = t21 := ho 21 (by kernel_rfl)
    have f22 : tm[22]?.getD undef = t22 := ho 22 (by kernel_rfl)
    have f23 : tm[23]?.getD undef = t23 := ho 23 (by kernel_rfl)
    have f24 : tm[24]?.getD undef = t24 := ho 24 (by kernel_rfl)
    have f25 : tm[25]?.getD undef = t25 := ho 25 (by kernel_rfl)
    have f26 : tm[26]?.getD undef = t26 := ho 26 (by kernel_rfl)
    have f27 : tm[27]?.getD undef = t27 := ho 27 (by kernel_rfl)
    have f28 : tm[28]?.getD undef = t28 := ho 28 (by kernel_rfl)
    have f29 : tm[29]?.getD undef = t29 := ho 29 (by kernel_rfl)
    have f30 : tm[30]?.getD undef = t30 := ho 30 (by kernel_rfl)
    have f31 : tm[31]?.getD undef = t31 := ho 31 (by kernel_rfl)
    have f32 : tm[32]?.getD undef = t32 := ho 32 (by kernel_rfl)
    have f33 : tm[33]?.getD undef = t33 := ho 33 (by kernel_rfl)
    have f34 : tm[34]?.getD undef = t34 := ho 34 (by kernel_rfl)
    have f35 : tm[35]?.getD undef = t35 := ho 35 (by kernel_rfl)
    have f36 : tm[36]?.getD undef = t36 := ho 36 (by kernel_rfl)
    have f37 : tm[37]?.getD undef = t37 := ho 37 (by kernel_rfl)
    have f38 : tm[38]?.getD undef = t38 := ho 38 (by kernel_rfl)
    have f39 : tm[39]?.getD undef = t39 := ho 39 (by kernel_rfl)
    have f40 : tm[40]?.getD undef = t40 := ho 40 (by kernel_rfl)
    have f41 : tm[41]?.getD undef = t41 := ho 41 (by kernel_rfl)
    have f42 : tm[42]?.getD undef = t42 := ho 42 (by kernel_rfl)
    have f43 : tm[43]?.getD undef = t43 := ho 43 (by kernel_rfl)
    have f44 : tm[44]?.getD undef = t44 := ho 44 (by kernel_rfl)
    have f45 : tm[45]?.getD undef = t45 := ho 45 (by kernel_rfl)
    have f46 : tm[46]?.getD undef = t46 := ho 46 (by kernel_rfl)
    have f47 : tm[47]?.getD undef = t47 := ho 47 (by kernel_rfl)
    have f48 : tm[48]?.getD undef = t48 := ho 48 (by kernel_rfl)
    have f49 : tm[49]?.getD undef = t49 := ho 49 (by kernel_rfl)
    have f50 : tm[50]?.getD undef = t50 := ho 50 (by kernel_rfl)
    have f51 : tm[51]?.getD undef = t51 := ho 51 (by kernel_rfl)
    have f52 : tm[52]?.getD undef = t52 := ho 52 (by kernel_rfl)
    have f53 : tm[53]?.getD undef = t53 := ho 53 (by kernel_rfl)
    have e : tm = #[tm[0]?.getD undef, tm[1]?.getD undef, tm[2]?.getD undef, tm[3]?.getD undef, tm[4]?.getD undef, tm[5]?.getD undef, tm[6]?.getD undef, tm[7]?.getD undef, tm[8]?.getD undef, tm[9]?.getD undef, tm[10]?.getD undef, tm[11]?.getD undef, tm[12]?.getD undef, tm[13]?.getD undef, tm[14]?.getD undef, tm[15]?.getD undef, tm[16]?.getD undef, tm[17]?.getD undef, tm[18]?.getD undef, tm[19]?.getD undef, tm[20]?.getD undef, tm[21]?.getD undef, tm[22]?.getD undef, tm[23]?.getD undef, tm[24]?.getD undef, tm[25]?.getD undef, tm[26]?.getD undef, tm[27]?.getD undef, tm[28]?.getD undef, tm[29]?.getD undef, tm[30]?.getD undef, tm[31]?.getD undef, tm[32]?.getD undef, tm[33]?.getD undef, tm[34]?.getD undef, tm[35]?.getD undef, tm[36]?.getD undef, tm[37]?.getD undef, tm[38]?.getD undef, tm[39]?.getD undef, tm[40]?.getD undef, tm[41]?.getD undef, tm[42]?.getD undef, tm[43]?.getD undef, tm[44]?.getD undef, tm[45]?.getD undef, tm[46]?.getD undef, tm[47]?.getD undef, tm[48]?.getD undef, tm[49]?.getD undef, tm[50]?.getD undef, tm[51]?.getD undef, tm[52]?.getD undef, tm[53]?.getD undef] := (arr_getS tm undef hsz).trans (by kernel_rfl)
    rw [e4, e5, f0, f1, f2, f3, f6, f7, f8, f9, f10, f11, f12, f21, f22, f23, f24, f25, f26, f27, f28, f29, f30, f31, f32, f33, f34, f35, f36, f37, f38, f39, f40, f41, f42, f43, f44, f45, f46, f47, f48, f49, f50, f51, f52, f53] at e
    rw [e]
    exact post p x y w' (tm[13]?.getD undef) (tm[14]?.getD undef) (tm[15]?.getD undef) (tm[16]?.getD undef) (tm[17]?.getD undef) (tm[18]?.getD undef) (tm[19]?.getD undef) (tm[20]?.getD undef) hWp hlay hvar g
  simp only [AllFrom]
  refine ⟨?_, ?_, ?_, ?_, ?_, ?_, ?_, ?_, ?_, ?_, ?_, trivial⟩
  · intro L c w' hL ho hw hc hd g
    exact sls_of hd g (by decide) (each_call (f := 70) (args := #[]) (by simp [go_sem]) ((srp_kinds w').mono (by rintro e w'' ⟨v, rfl, hk, g'⟩; exact ⟨_, rfl, fun _ => hk, g'⟩)))
  · intro L c w' hL ho hw hc hd g
    have e0 : c.tmps[0]?.getD undef = .slice (some ⟨b, o, none⟩) n cap := ho 0 (by kernel_rfl)
    refine sls_of hd g (by decide) (each_value (v := .slice (some ⟨b, o, none⟩) n cap) ?_ rfl)
    simp [execOp, go_sem, e0]
  · intro L c w' hL ho hw hc hd g
    have e0 : c.tmps[15]?.getD undef = .slice (some ⟨b, o, none⟩) n cap := hd 1 15 (hw 1 (by kernel_rfl)) (by kernel_rfl)
    refine sls_of hd g (by decide) (each_value (v := .pointer (some ⟨b, o, none⟩)) ?_ rfl)
    simp [execOp, go_sem, e0, hn]
  · intro L c w' hL ho hw hc hd g
    have e0 : c.tmps[16]?.getD undef = .pointer (some ⟨b, o, none⟩) := hd 2 16 (hw 2 (by kernel_rfl)) (by kernel_rfl)
    have hx := (g.cell (p := ⟨b, o, none⟩) (World.block_lt_of_cell? W ⟨b, o, none⟩ T.out)).trans T.out
    refine sls_of hd g (by decide) (each_value (v := .int .u8 (a : Nat)) ?_ rfl)
    simp [execOp, go_sem, e0, hx]
  · intro L c w' hL ho hw hc hd g
    have hk : SKindsAt w' (c.tmps[14]?.getD undef) := hd 0 14 (hw 0 (by kernel_rfl)) (by kernel_rfl) hL
    have e2 : c.eval (.tmp 17) = .int .u8 (a : Nat) := by
      have : c.tmps[17]?.getD undef = .int .u8 (a : Nat) := hd 3 17 (hw 3 (by kernel_rfl)) (by kernel_rfl)
      simpa [go_sem] using this
    have e1 : c.eval (.tmp 14) = c.tmps[14]?.getD undef := by simp [go_sem]
    obtain ⟨lv, hrun, hl⟩ := skinds_look w' _ hk a ha
    refine sls_of hd g (by decide) (each_value (v := .tuple #[lv, .bool (decide ((srfLay a).1 ≠ 0))]) ?_ ⟨lv, rfl, hl⟩)
    simp only [execOp, e1, e2, Sem.run_bind, hrun, Result.andThen_ok, Sem.run_pure]
  · intro L c w' hL ho hw hc hd g
    obtain ⟨lv, e1, hl⟩ : ∃ lv, c.tmps[18]?.getD undef = .tuple #[lv, .bool (decide ((srfLay a).1 ≠ 0))] ∧ SLayH w' lv a := hd 4 18 (hw 4 (by kernel_rfl)) (by kernel_rfl)
    refine sls_of hd g (by decide) (each_value (v := .tuple #[lv, .bool (decide ((srfLay a).1 ≠ 0))]) ?_ ⟨lv, rfl, hl⟩)
    simp [execOp, go_sem, e1]
  · intro L c w' hL ho hw hc hd g
    obtain ⟨lv, e1, hl⟩ : ∃ lv, c.tmps[13]?.getD undef = .tuple #[lv, .bool (decide ((srfLay a).1 ≠ 0))] ∧ SLayH w' lv a := hd 5 13 (hw 5 (by kernel_rfl)) (by kernel_rfl)
    refine sls_of hd g (by decide) (each_value (v := lv) ?_ hl)
    simp [execOp, go_sem, e1]
  · intro L c w' hL ho hw hc hd g
    obtain ⟨lv, e1, hl⟩ : ∃ lv, c.tmps[13]?.getD undef = .tuple #[lv, .bool (decide ((srfLay a).1 ≠ 0))] ∧ SLayH w' lv a := hd 5 13 (hw 5 (by kernel_rfl)) (by kernel_rfl)
    refine sls_of hd g (by decide) (each_value (v := .bool (decide ((srfLay a).1 ≠ 0))) ?_ rfl)
    simp [execOp, go_sem, e1]
  · intro L c w' hL ho hw hc hd g
    have hn : L 9 = false := by
      cases q : L 9 with
      | false => rfl
      | true => have := hc 9 8 q (by kernel_rfl); rw [hL] at this; cases this
    refine sls_of hd g (by decide) (each_made (v := .pointer (some ⟨w'.heap.size, 0, none⟩)) (w1 := w'.alloc (.cells #[.int .i64 0, .slice none 0 0] 120)) ?_ ((Grew.refl _).alloc _) ⟨_, rfl, g.size, by simp, ?_⟩)
    · simp [execOp, go_sem]
    · rw [also_ne (by decide), hn, if_neg (by decide)]
      exact ⟨_, _, heap_alloc_new _ _⟩
  · intro L c w' hL ho hw hc hd g
    exact sls_store (ops := sdecOps) (sh := sdecSh a b o n cap) (t := 19) rfl rfl hd g (hd 8 4 (hw 8 (by kernel_rfl)) (by kernel_rfl)) (hd 6 19 (hw 6 (by kernel_rfl)) (by kernel_rfl)) hL (hw 4 (by kernel_rfl)) (by kernel_rfl) (by kernel_rfl) (by kernel_rfl)
  · intro L c w' hL ho hw hc hd g
    have e1 : c.tmps[20]?.getD undef = .bool (decide ((srfLay a).1 ≠ 0)) := hd 7 20 (hw 7 (by kernel_rfl)) (by kernel_rfl)
    refine sls_of hd g (by decide) (each_value (v := .bool (decide ((srfLay a).1 ≠ 0))) ?_ rfl)
    simp [execOp, go_sem, e1]
noncomputable def spayOps : Array Oper := (Tryz.f48.body.map (regOps 1)).getD #[]
noncomputable def spayCode : Code := (Tryz.f48.body.bind (regCode 1)).getD .skip
def spaySh (a : Nat) (ab : Nat) : List (Value ⊕ Nat) := [.inr 0, .inl (.pointer (some ⟨ab, 0, none⟩)), .inl (.int .u8 (a : Nat)), .inr 1, .inr 1, .inr 2, .inl (.bool (decide ((srfLay a).1 ≠ 0))), .inr 3, .inr 4, .inl (.bool (decide ((srfLay a).1 ≠ 0)))]
set_option maxRecDepth 1000000 in
set_option maxHeartbeats 8000000 in
theorem spay_look (a : Nat) (ab : Nat) (W : World) (sv : Value) (T : Hid (TwoC W ab (.int .u8 (a : Nat)) sv)) (ha : a < 256) (K0 : Act → World → Prop) (t0 t2 t3 t4 t5 t6 t7 t8 t9 t10 t11 t12 t13 t14 t15 t16 t17 t18 t19 t20 t21 t22 t23 t24 t25 t26 t27 t28 t29 t30 t31 t32 t33 t34 t35 t36 t37 t38 t39 t40 t41 t42 t43 t44 t45 t46 t47 t48 t49 t50 t51 t52 t53 t54 t55 t56 t57 t58 : Value)
    (post : ∀ (p : Nat) (x y : Value) (w' : World) (s9 s10 s11 s12 s13 s14 s15 : Value), W.heap.size ≤ p → SLayH w' (.agg #[x, y]) a → TwoC w' p x y → Grew W w' → K0 ⟨#[t0, .pointer (some ⟨ab, 0, none⟩), t2, t3, .pointer (some ⟨p, 0, none⟩), .bool (decide ((srfLay a).1 ≠ 0)), t6, t7, t8, s9, s10, s11, s12, s13, s14, s15, t16, t17, t18, t19, t20, t21, t22, t23, t24, t25, t26, t27, t28, t29, t30, t31, t32, t33, t34, t35, t36, t37, t38, t39, t40, t41, t42, t43, t44, t45, t46, t47, t48, t49, t50, t51, t52, t53, t54, t55, t56, t57, t58], []⟩ w') :
    Code.wp Tryz.prog spayCode (Exit.then K0 fun _ _ _ => False) ⟨#[t0, .pointer (some ⟨ab, 0, none⟩), t2, t3, t4, t5, t6, t7, t8, t9, t10, t11, t12, t13, t14, t15, t16, t17, t18, t19, t20, t21, t22, t23, t24, t25, t26, t27, t28, t29, t30, t31, t32, t33, t34, t35, t36, t37, t38, t39, t40, t41, t42, t43, t44, t45, t46, t47, t48, t49, t50, t51, t52, t53, t54, t55, t56, t57, t58], []⟩ W := by
  conv => arg 2; whnf
  refine wp_region_fill (n := 59) (ops := spayOps) (by kernel_rfl) (fun L i w' v => SLookS a W 3 8 ((spaySh a ab).getD i (.inr 4)) L w' v) ?_ ?_ ?_ ?_ ?_
  case refine_1 => kernel_rfl
  case refine_2 => kernel_rfl
  case refine_3 => rfl
  case refine_5 =>
    intro L c w' hL hdef hsz ho hd g
    obtain ⟨tm, df⟩ := c
    simp only at hdef hsz ho hd
    subst hdef
    obtain ⟨p, e4, hWp, _, h4⟩ := hd 7 4 (by kernel_rfl)
    rw [if_pos (hL 8 (of_decide_eq_true (by kernel_rfl)))] at h4
    obtain ⟨x, y, hlay, hvar⟩ := h4
    have e5 : tm[5]?.getD undef = .bool (decide ((srfLay a).1 ≠ 0)) := hd 9 5 (by kernel_rfl)
    have f0 : tm[0]?.getD undef = t0 := ho 0 (by kernel_rfl)
    have f1 : tm[1]?.getD undef = .pointer (some ⟨ab, 0, none⟩) := ho 1 (by kernel_rfl)
    have f2 : tm[2]?.getD undef = t2 := ho 2 (by kernel_rfl)
    have f3 : tm[3]?.getD undef = t3 := ho 3 (by kernel_rfl)
    have f6 : tm[6]?.getD undef = t6 := ho 6 (by kernel_rfl)
    have f7 : tm[7]?.getD undef = t7 := ho 7 (by kernel_rfl)
    have f8 : tm[8]?.getD undef = t8 := ho 8 (by kernel_rfl)
    have f16 : tm[16]?.getD undef = t16 := ho 16 (by kernel_rfl)
    have f17 : tm[17]?.getD undef = t17 := ho 17 (by kernel_rfl)
    have f18 : tm[18]?.getD undef = t18 := ho 18 (by kernel_rfl)
    have f19 : tm[19]?.getD undef = t19 := ho 19 (by kernel_rfl)
    have f20 : tm[20]?.getD undef = t20 := ho 20 (by kernel_rfl)
    have f21 : tm[21]?.getD undef = t21 := ho 21 (by kernel_rfl)
    have f22 : tm[22]?.getD undef = t22 := ho 22 (by kernel_rfl)
    have f23 : tm[23]?.getD undef = t23 := ho 23 (by kernel_rfl)
    have f24 : tm[24]?.getD undef = t24 := ho 24 (by kernel_rfl)
    have f25 : tm[25]?.getD undef = t25 := ho 25 (by kernel_rfl)
    have f26 : tm[26]?.getD undef = t26 := ho 26 (by kernel_rfl)
    have f27 : tm[27]?.getD undef = t27 := ho 27 (by kernel_rfl)
    have f28 : tm[28]?.getD undef = t28 := ho 28 (by kernel_rfl)
    have f29 : tm[29]?.getD undef = t29 := ho 29 (by kernel_rfl)
    have f30 : tm[30]?.getD undef = t30 := ho 30 (by kernel_rfl)
    have f31 : tm[31]?.getD undef = t31 := ho 31 (by kernel_rfl)
    have f32 : tm[32]?.getD undef = t32 := ho 32 (by kernel_rfl)
    have f33 : tm[33]?.getD undef = t33 := ho 33 (by kernel_rfl)
    have f34 : tm[34]?.getD undef = t34 := ho 34 (by kernel_rfl)
    have f35 : tm[35]?.getD undef = t35 := ho 35 (by kernel_rfl)
    have f36 : tm[36]?.getD undef = t36 := ho 36 (by kernel_rfl)
    have f37 : tm[37]?.getD undef = t37 := ho 37 (by kernel_rfl)
    have f38 : tm[38]?.getD undef = t38 := ho 38 (by kernel_rfl)
    have f39 : tm[39]?.getD undef = t39 := ho 39 (by kernel_rfl)
    have f40 : tm[40]?.getD undef = t40 := ho 40 (by kernel_rfl)
    have f41 : tm[41]?.getD undef = t41 := ho 41 (by kernel_rfl)
    have f42 : tm[42]?.getD undef = t42 := ho 42 (by kernel_rfl)
    have f43 : tm[43]?.getD undef = t43 := ho 43 (by kernel_rfl)
    have f44 : tm[44]?.getD undef = t44 := ho 44 (by kernel_rfl)
    have f45 : tm[45]?.getD undef = t45 := ho 45 (by kernel_rfl)
    have f46 : tm[46]?.getD undef = t46 := ho 46 (by kernel_rfl)
    have f47 : tm[47]?.getD undef = t47 := ho 47 (by kernel_rfl)
    have f48 : tm[48]?.getD undef = t48 := ho 48 (by kernel_rfl)
    have f49 : tm[49]?.getD undef = t49 := ho 49 (by kernel_rfl)
    have f50 : tm[50]?.getD undef = t50 := ho 50 (by kernel_rfl)
    have f51 : tm[51]?.getD undef = t51 := ho 51 (by kernel_rfl)
    have f52 : tm[52]?.getD undef = t52 := ho 52 (by kernel_rfl)
    have f53 : tm[53]?.getD undef = t53 := ho 53 (by kernel_rfl)
    have f54 : tm[54]?.getD undef = t54 := ho 54 (by kernel_rfl)
    have f55 : tm[55]?.getD undef = t55 := ho 55 (by kernel_rfl)
    have f56 : tm[56]?.getD undef = t56 := ho 56 (by kernel_rfl)
    have f57 : tm[57]?.getD undef = t57 := ho 57 (by kernel_rfl)
    have f58 : tm[58]?.getD undef = t58 := ho 58 (by kernel_rfl)
    have e : tm = #[tm[0]?.getD undef, tm[1]?.getD undef, tm[2]?.getD undef, tm[3]?.getD undef, tm[4]?.getD undef, tm[5]?.getD undef, tm[6]?.getD undef, tm[7]?.getD undef, tm[8]?.getD undef, tm[9]?.getD undef, tm[10]?.getD undef, tm[11]?.getD undef, tm[12]?.getD undef, tm[13]?.getD undef, tm[14]?.getD undef, tm[15]?.getD undef, tm[16]?.getD undef, tm[17]?.getD undef, tm[18]?.getD undef, tm[19]?.getD undef, tm[20]?.getD undef, tm[21]?.getD undef, tm[22]?.getD undef, tm[23]?.getD undef, tm[24]?.getD undef, tm[25]?.getD undef, tm[26]?.getD undef, tm[27]?.getD undef, tm[28]?.getD undef, tm[29]?.getD undef, tm[30]?.getD undef, tm[31]?.getD undef, tm[32]?.getD undef, tm[33]?.getD undef, tm[34]?.getD undef, tm[35]?.getD undef, tm[36]?.getD undef, tm[37]?.getD undef, tm[38]?.getD undef, tm[39]?.getD undef, tm[40]?.getD undef, tm[41]?.getD undef, tm[42]?.getD undef, tm[43]?.getD undef, tm[44]?.getD undef, tm[45]?.getD undef, tm[46]?.getD undef, tm[47]?.getD undef, tm[48]?.getD undef, tm[49]?.getD undef, tm[50]?.getD undef, tm[51]?.getD undef, tm[52]?.getD undef, tm[53]?.getD undef, tm[54]?.getD undef, tm[55]?.getD undef, tm[56]?.getD undef, tm[57]?.getD undef, tm[58]?.getD undef] := (arr_getS tm undef hsz).trans (by kernel_rfl)
    rw [e4, e5, f0, f1, f2, f3, f6, f7, f8, f16, f17, f18, f19, f20, f21, f22, f23, f24, f25, f26, f27, f28, f29, f30, f31, f32, f33, f34, f35, f36, f37, f38, f39, f40, f41, f42, f43, f44, f45, f46, f47, f48, f49, f50, f51, f52, f53, f54, f55, f56, f57, f58] at e
    rw [e]
    exact post p x y w' (tm[9]?.getD undef) (tm[10]?.getD undef) (tm[11]?.getD undef) (tm[12]?.getD undef) (tm[13]?.getD undef) (tm[14]?.getD undef) (tm[15]?.getD undef) hWp hlay hvar g
  simp only [AllFrom]
  refine ⟨?_, ?_, ?_, ?_, ?_, ?_, ?_, ?_, ?_, ?_, trivial⟩
  · intro L c w' hL ho hw hc hd g
    exact sls_of hd g (by decide) (each_call (f := 70) (args := #[]) (by simp [go_sem]) ((srp_kinds w').mono (by rintro e w'' ⟨v, rfl, hk, g'⟩; exact ⟨_, rfl, fun _ => hk, g'⟩)))
  · intro L c w' hL ho hw hc hd g
    have e0 : c.tmps[1]?.getD undef = .pointer (some ⟨ab, 0, none⟩) := ho 1 (by kernel_rfl)
    refine sls_of hd g (by decide) (each_value (v := .pointer (some ⟨ab, 0, none⟩)) ?_ rfl)
    simp [execOp, go_sem, e0]
  · intro L c w' hL ho hw hc hd g
    have e0 : c.tmps[11]?.getD undef = .pointer (some ⟨ab, 0, none⟩) := hd 1 11 (hw 1 (by kernel_rfl)) (by kernel_rfl)
    have hx := (T.out.grew g).c0
    refine sls_of hd g (by decide) (each_value (v := .int .u8 (a : Nat)) ?_ rfl)
    simp [execOp, go_sem, e0, hx]
  · intro L c w' hL ho hw hc hd g
    have hk : SKindsAt w' (c.tmps[10]?.getD undef) := hd 0 10 (hw 0 (by kernel_rfl)) (by kernel_rfl) hL
    have e2 : c.eval (.tmp 12) = .int .u8 (a : Nat) := by
      have : c.tmps[12]?.getD undef = .int .u8 (a : Nat) := hd 2 12 (hw 2 (by kernel_rfl)) (by kernel_rfl)
      simpa [go_sem] using this
    have e1 : c.eval (.tmp 10) = c.tmps[10]?.getD undef := by simp [go_sem]
    obtain ⟨lv, hrun, hl⟩ := skinds_look w' _ hk a ha
    refine sls_of hd g (by decide) (each_value (v := .tuple #[lv, .bool (decide ((srfLay a).1 ≠ 0))]) ?_ ⟨lv, rfl, hl⟩)
    simp only [execOp, e1, e2, Sem.run_bind, hrun, Result.andThen_ok, Sem.run_pure]
  · intro L c w' hL ho hw hc hd g
    obtain ⟨lv, e1, hl⟩ : ∃ lv, c.tmps[13]?.getD undef = .tuple #[lv, .bool (decide ((srfLay a).1 ≠ 0))] ∧ SLayH w' lv a := hd 3 13 (hw 3 (by kernel_rfl)) (by kernel_rfl)
    refine sls_of hd g (by decide) (each_value (v := .tuple #[lv, .bool (decide ((srfLay a).1 ≠ 0))]) ?_ ⟨lv, rfl, hl⟩)
    simp [execOp, go_sem, e1]
  · intro L c w' hL ho hw hc hd g
    obtain ⟨lv, e1, hl⟩ : ∃ lv, c.tmps[9]?.getD undef = .tuple #[lv, .bool (decide ((srfLay a).1 ≠ 0))] ∧ SLayH w' lv a := hd 4 9 (hw 4 (by kernel_rfl)) (by kernel_rfl)
    refine sls_of hd g (by decide) (each_value (v := lv) ?_ hl)
    simp [execOp, go_sem, e1]
  · intro L c w' hL ho hw hc hd g
    obtain ⟨lv, e1, hl⟩ : ∃ lv, c.tmps[9]?.getD undef = .tuple #[lv, .bool (decide ((srfLay a).1 ≠ 0))] ∧ SLayH w' lv a := hd 4 9 (hw 4 (by kernel_rfl)) (by kernel_rfl)
    refine sls_of hd g (by decide) (each_value (v := .bool (decide ((srfLay a).1 ≠ 0))) ?_ rfl)
    simp [execOp, go_sem, e1]
  · intro L c w' hL ho hw hc hd g
    have hn : L 8 = false := by
      cases q : L 8 with
      | false => rfl
      | true => have := hc 8 7 q (by kernel_rfl); rw [hL] at this; cases this
    refine sls_of hd g (by decide) (each_made (v := .pointer (some ⟨w'.heap.size, 0, none⟩)) (w1 := w'.alloc (.cells #[.int .i64 0, .slice none 0 0] 120)) ?_ ((Grew.refl _).alloc _) ⟨_, rfl, g.size, by simp, ?_⟩)
    · simp [execOp, go_sem]
    · rw [also_ne (by decide), hn, if_neg (by decide)]
      exact ⟨_, _, heap_alloc_new _ _⟩
  · intro L c w' hL ho hw hc hd g
    exact sls_store (ops := spayOps) (sh := spaySh a ab) (t := 14) rfl rfl hd g (hd 7 4 (hw 7 (by kernel_rfl)) (by kernel_rfl)) (hd 5 14 (hw 5 (by kernel_rfl)) (by kernel_rfl)) hL (hw 3 (by kernel_rfl)) (by kernel_rfl) (by kernel_rfl) (by kernel_rfl)
  · intro L c w' hL ho hw hc hd g
    have e1 : c.tmps[15]?.getD undef = .bool (decide ((srfLay a).1 ≠ 0)) := hd 6 15 (hw 6 (by kernel_rfl)) (by kernel_rfl)
    refine sls_of hd g (by decide) (each_value (v := .bool (decide ((srfLay a).1 ≠ 0))) ?_ rfl)
    simp [execOp, go_sem, e1]
/- The program's SiRF messages: a payload read. -/
theorem smade_one (x : Value) (n : Nat) (h : x.cells = #[x]) : (madeCells x.cells (n * 1)).toList = List.replicate n x := by
  rw [h, Nat.mul_one]
  unfold madeCells
  refine List.ext_getElem (by simp) fun i h1 h2 => ?_
  simp [Nat.mod_one]
section
variable {P : Program} (w : World)
/-- 'make([]T, n)' of integers, n a variable. -/
theorem wpList_makeI {ops : Array Oper} {rest : List Oper} {o : Oper} {a : Act} {Q : Exit → Act → World → Prop} (hgd : o.guard = none) (l c : Operand) (t : TypeId) (hop : o.op = .makeSlice t l c)
    (base : Nat) (E : TypeId) (k : IntKind) (bytes : Nat) (ht : P.underlying t = some (.slice E)) (hi : (P.info? E).map (fun i => (i.zero, i.size, i.bytes)) = some (some (.int k 0), 1, bytes))
    (n : Nat) (hl : a.eval l = .int .i64 (n : Nat)) (hc : a.eval c = .int .i64 (n : Nat)) (hb : bytes * n ≤ 281474976710656) (hm : n ≤ maxLen) (hbase : base ≤ w.heap.size)
    (h : ∀ w', OwnZ base E k w' (.slice (some ⟨w.heap.size, 0, none⟩) n n) (List.replicate n 0) → Grew w w' → wpList P ops Q rest (a.put o.dst (.slice (some ⟨w.heap.size, 0, none⟩) n n)) w') : wpList P ops Q (o :: rest) a w := by
  obtain ⟨i, hi0, hz0, hz1, hz2⟩ := info_parts hi
  refine wpList_make_full w hgd l c t hop base E i (.int k 0) 1 ht hi0 hz0 hz1 .i64 .i64 _ _ n hl hc rfl rfl (by rw [hz2]; exact hb) hm hbase fun w' h1 h2 => h w' ?_ ?_
  · rw [smade_one _ _ rfl] at h1
    unfold OwnZ
    rw [List.length_replicate, show cellsZ k (List.replicate n 0) = List.replicate n (.int k 0) by simp [cellsZ]]
    exact h1
  · exact Below.grown (Grew.refl w) h2 (Nat.le_refl _) (fun b hb => by cases hb)
end
/-- A number of the row is written over. -/
theorem OwnZ.setI {w : World} {B : Nat} {E : TypeId} {k : IntKind} {g c n : Nat} {zs : List Int} (h : OwnZ B E k w (.slice (some ⟨g, 0, none⟩) n c) zs) (j : Nat) (x : Int) (hj : j < zs.length) :
    OwnZ B E k (w.setCell ⟨g, j, none⟩ (.int k x)) (.slice (some ⟨g, 0, none⟩) n c) (zs.set j x) := by
  unfold OwnZ at h ⊢
  rw [List.length_set]
  have hn : n = zs.length := by
    rcases h.2 with ⟨h', _⟩ | ⟨g', cap', cur, h', _⟩
    · simp at h'
    · simp only [Value.slice.injEq] at h'; exact h'.2.1
  subst hn
  have := (World.ownsRow.stored h j (.int k x)).1
  rwa [show (cellsZ k zs).set j (.int k x) = cellsZ k (zs.set j x) by simp [cellsZ, List.map_set]] at this
theorem OwnZ.cellI {w : World} {B : Nat} {E : TypeId} {k : IntKind} {g c n : Nat} {zs : List Int} (h : OwnZ B E k w (.slice (some ⟨g, 0, none⟩) n c) zs) (hn : n = zs.length) (j : Nat) (hj : j < zs.length) : w.cell? ⟨g, j, none⟩ = some (.int k (zi zs j)) ∧ w.frozen? ⟨g, j, none⟩ = false := by
  subst hn
  unfold OwnZ at h
  refine ⟨?_, World.ownsRow.frozenAt h j⟩
  rw [World.ownsRow.cellAt h j (by omega)]
  simp [cellsZ, zi, hj]
/-- The values of the first so many fields, noughts behind. -/
def bvalsPad (S : List Nat) (l : List Int) (K k : Nat) : List Int := bvalsTo S l k ++ List.replicate (K - k) 0
theorem bvalsPad_length (S : List Nat) (l : List Int) (K k : Nat) (h : k ≤ K) : (bvalsPad S l K k).length = K := by
  unfold bvalsPad
  rw [List.length_append, bvalsTo_length, List.length_replicate]
  omega
theorem bvalsPad_set (S : List Nat) (l : List Int) (K k : Nat) (h : k < K) : (bvalsPad S l K k).set k (getB S (zi l (2 * k)).toNat (zi l (2 * k + 1))) = bvalsPad S l K (k + 1) := by
  unfold bvalsPad
  rw [List.set_append_right _ _ (by rw [bvalsTo_length]; exact Nat.le_refl _), bvalsTo_length, Nat.sub_self, show K - k = (K - (k + 1)) + 1 by omega, List.replicate_succ, List.set_cons_zero, bvalsTo, List.append_assoc]
  rfl
theorem bvalsPad_all (S : List Nat) (l : List Int) (K : Nat) : bvalsPad S l K K = bvalsTo S l K := by
  unfold bvalsPad
  rw [Nat.sub_self]
  simp
theorem sneg_abs (m : Nat) (neg : Bool) : (if neg then -(m : Int) else (m : Int)).natAbs = m := by cases neg <;> simp
theorem sneg_lt (m : Nat) (neg : Bool) (h : 0 < m) : decide ((if neg then -(m : Int) else (m : Int)) < 0) = neg := by cases neg <;> simp <;> omega
-- [DEC
set_option maxRecDepth 100000 in
set_option maxHeartbeats 4000000 in
theorem srp_Decode (v : Value) (S : List Nat) (w : World) (hr : Row .u8 w v S) (hB : Bytes S) (hl : S.length ≤ 100000) :
    Calls Tryz.prog 61 #[v] w (DecS (srfDec S) w) := by
  have hdec : srfDec S = if S.length = 0 then (0, [], 4) else if (srfLay (wd S 0)).1 = 0 then (0, [], 7) else if S.length ≠ (srfLay (wd S 0)).1 then (0, [], 5) else (wd S 0, bvalsTo S (srfLay (wd S 0)).2 ((srfLay (wd S 0)).2.length / 2), 0) := rfl
  have HR := Lib.hid hr
  obtain ⟨SA, sc, rfl, hsc, hrow⟩ := hr
  by_cases hs0 : S.length = 0
  · rw [hdec, if_pos hs0]
    clear hdec hrow HR
    rw [hs0] at hsc ⊢
    go_enter Tryz.func61, Tryz.ntmps61
    go_upto_region 1 with fail
    obtain ⟨W, hW, g0, T0⟩ := twoC_new w (.int .u8 0) (.slice none 0 0) 40
    rw [hW]
    clear hW
    obtain ⟨_, r0, r1, q0, q1⟩ := T0
    go_wp2_with fail
    refine bodyPost_ret (by simp [results, Tryz.results61, go_sem, r0, r1]; try rfl) rfl ?_
    exact decS_no (twoC_put g0 (Nat.le_refl _) _ _)
  · have hs1 : ¬ (S.length : Int) = 0 := by omega
    obtain ⟨sb, so, rfl, hsb, hcell⟩ := hrow (by omega)
    have h0 := hcell 0 (by omega)
    rw [Nat.add_zero] at h0
    have ha := hB 0
    obtain ⟨a, haa⟩ : ∃ a, wd S 0 = a := ⟨_, rfl⟩
    have HF := srf_field a
    have HNO := fun h => slay_no (c := a) h
    have HAT := fun w v (h : SLayH w v a) => h.at_
    have hev := (srf_layOk a).even
    unfold SLayAt at HAT
    rw [haa] at h0 ha hdec
    rw [if_neg hs0] at hdec
    have HLay : ∀ w v, SLayH w v a → _ := HAT
    generalize hn : (srfLay a).1 = n at *
    generalize hll : (srfLay a).2 = l at *
    have hA0 := Lib.hid haa
    clear haa
    generalize srfDec S = r at *
    have HP := Lib.hid hdec
    clear hdec hcell
    have HC0 := Lib.hid h0
    have hs2 : ¬ (S.length : Int) = 0 := hs1
    clear hs1 hrow
    go_enter Tryz.func61, Tryz.ntmps61
    go_upto_region 1 with fail
    obtain ⟨W, hW, g0, T0⟩ := twoC_new w (.int .u8 0) (.slice none 0 0) 40
    rw [hW]
    clear hW
    have T1 := Lib.hid T0
    have hw0 := T0.lt
    have hC1 := Lib.hid ((g0.cell (p := ⟨sb, so, none⟩) hsb).trans h0)
    clear T0 h0
    go_upto_region 3 with fail
    go_cut [4, 5] (fun s t wx => ∃ (p : Nat) (A : Option Addr) (cap : Nat), s = .pointer (some ⟨p, 0, none⟩) ∧ t = .bool (!decide (n = 0)) ∧ W.heap.size ≤ p ∧ Hid (SLayH wx (.agg #[.int .i64 (n : Nat), .slice A (l.length / 2) cap]) a) ∧ Hid (TwoC wx p (.int .i64 (n : Nat)) (.slice A (l.length / 2) cap)) ∧ Hid (Grew W wx))
    case first =>
      refine wp_thenS (sdec_look a sb so S.length sc W hC1 (by omega) ha _ _ _ _ _ _ _ _ _ _ _ _ _ _ _ _ _ _ _ _ _ _ _ _ _ _ _ _ _ _ _ _ _ _ _ _ _ _ _ _ _ _ _ _ _ _ _ _ _ _ _ _ _ _ (fun p x y wx s13 s14 s15 s16 s17 s18 s19 s20 hWp hlay hvar hg => ?_))
      obtain ⟨A, cap, e, _⟩ := HAT _ _ hlay
      simp only [Value.agg.injEq, Array.mk.injEq, List.cons.injEq, and_true] at e
      obtain ⟨rfl, rfl⟩ := e
      go_wp2_with fail
      go_meet
      case rel => exact ⟨p, A, cap, rfl, by simp, hWp, Lib.hid hlay, Lib.hid hvar, Lib.hid hg⟩
    case rest =>
      obtain ⟨wX, hwX⟩ : ∃ x, x = wc := ⟨_, rfl⟩
      subst hwX
      obtain ⟨p, A, cap, rfl, rfl, hWp, hlay, hvar, hg⟩ := hcut
      have G1 := Lib.hid (g0.trans hg.out)
      obtain ⟨_, v0, v1, _, _⟩ := hvar.out
      obtain ⟨_, r0, r1, q0, q1⟩ := T1.out.grew hg.out
      by_cases hn0 : n = 0
      · have HP0 : Hid (r = (0, [], 7)) := Lib.hid (by rw [HP.out, if_pos hn0])
        subst hn0
        go_wp2_with fail
        refine bodyPost_ret (by simp [results, Tryz.results61, go_sem, r0, r1]; try rfl) rfl ?_
        rw [HP0.out]
        exact decS_no (twoC_put G1.out (Nat.le_refl _) _ _)
      · by_cases hne : S.length ≠ n
        · have n1 : ¬ (S.length : Int) = n := by omega
          have HP0 : Hid (r = (0, [], 5)) := Lib.hid (by rw [HP.out, if_neg hn0, if_pos hne])
          go_wp2_with fail
          refine bodyPost_ret (by simp [results, Tryz.results61, go_sem, r0, r1]; try rfl) rfl ?_
          rw [HP0.out]
          exact decS_no (twoC_put G1.out (Nat.le_refl _) _ _)
        · have HP' : Hid (r = (a, bvalsTo S l (l.length / 2), 0)) := Lib.hid (by rw [HP.out, if_neg hn0, if_neg hne])
          obtain rfl : n = S.length := by omega
          go_upto_region 9 with (refine wpList_makeI _ rfl _ _ 35 rfl wX.heap.size 2 .i64 8 Tryz.underlying35 infoI64 (l.length / 2) rfl rfl (by omega) (by unfold maxLen; omega) (Nat.le_refl _) ?_; intro V2 hO0 gV2)
          have HLC := (HAT _ _ hlay.out)
          obtain ⟨A', cap', eA, HLC⟩ := HLC
          simp only [Value.agg.injEq, Array.mk.injEq, List.cons.injEq, and_true, Value.slice.injEq] at eA
          obtain ⟨-, rfl, -, rfl⟩ := eA
          have HLAY := Lib.hid HLC
          have hpos : 2 * (l.length / 2) = l.length := by omega
          generalize hKe : l.length / 2 = K at *
          clear hKe HLC
          obtain ⟨_, v0, v1, _, _⟩ := hvar.out.grew gV2
          have hvl : wX.heap.size < V2.heap.size := (hO0.lt _ rfl).2
          have hw1 : w.heap.size < wX.heap.size := Nat.lt_of_lt_of_le hw0 hg.out.size
          have hpw : p < wX.heap.size := hvar.out.lt
          have GA := Lib.hid (G1.out.trans gV2)
          have HFI := Lib.hid HF
          have HBy := Lib.hid hB
          have TA := Lib.hid (T1.out.grew (hg.out.trans gV2))
          clear HP HNO HAT HLay HF hB r0 r1 q0 q1 hC1
          go_wp2_with fail
          go_loopg [37] K (fun kx s wr => ∃ k : Nat, k + kx = K ∧ s = .int .i64 k ∧ Hid (OwnZ wX.heap.size 2 .i64 wr (.slice (some ⟨wX.heap.size, 0, none⟩) K K) (bvalsPad S l K k)) ∧ Hid (Far (fun x => x = wX.heap.size) V2 wr))
          case atStart => exact ⟨0, by omega, rfl, Lib.hid (by unfold bvalsPad bvalsTo; exact hO0), Lib.hid (Far.refl _ _)⟩
          case round =>
            obtain ⟨k, hk, rfl, hO, hFa⟩ := hrel
            by_cases hlt : k < K
            · obtain ⟨q, m, neg, e1, e2, hm, hq1, hpm⟩ := HFI.out k (by omega)
              obtain ⟨fb, rfl, hfb, c0, c1, c2⟩ := HLAY.out k (by omega)
              rw [e1] at c0
              rw [e2, sneg_abs] at c1
              rw [e2, sneg_lt m neg hm.1] at c2
              have hs := Lib.hid (bvalsPad_set S l K k hlt)
              rw [e1, e2, Int.toNat_natCast] at hs
              have HG := fun w' (g : Grew wr w') => Lib.hid (srp_read (.slice (some ⟨sb, so, none⟩) S.length sc) S q m neg w' (((HR.out.grew GA.out).far hFa.out (fun x hx h => by have := HR.out.lt (by omega) x hx; omega)).grew g) HBy.out hpm hm hl)
              have y0 := (hFa.out.cell (p := ⟨fb, k * 3, none⟩) (Nat.lt_trans hfb (by omega)) (by show ¬ fb = _; omega)).trans ((gV2.cell (p := ⟨fb, k * 3, none⟩) hfb).trans c0)
              have y1 := (hFa.out.cell (p := ⟨fb, k * 3 + 1, none⟩) (Nat.lt_trans hfb (by omega)) (by show ¬ fb = _; omega)).trans ((gV2.cell (p := ⟨fb, k * 3 + 1, none⟩) hfb).trans c1)
              have y2 := (hFa.out.cell (p := ⟨fb, k * 3 + 2, none⟩) (Nat.lt_trans hfb (by omega)) (by show ¬ fb = _; omega)).trans ((gV2.cell (p := ⟨fb, k * 3 + 2, none⟩) hfb).trans c2)
              clear c0 c1 c2
              generalize getB S q (if neg then -(m : Int) else (m : Int)) = y at *
              have hvp := Lib.hid (bvalsPad_length S l K k (by omega))
              generalize bvalsPad S l K k = zs at *
              go_upto_region 12 with fail
              obtain ⟨W3, hW3, g3, T3⟩ := three_new wr (.int .i64 (q : Nat)) (.int .i64 (m : Nat)) (.bool neg) 125
              rw [hW3]
              clear hW3 y0 y1 y2
              obtain ⟨_, x0, x1, x2, _, _, _⟩ := T3
              go_upto_region 13 with (go_at_call 72; refine (HG _ g3).out.mono ?_; rintro e w5 ⟨rfl, g5⟩; have O5 := hO.out.grew (g3.trans g5); obtain ⟨hx, hfr⟩ := O5.cellI hvp.out.symm k (by rw [hvp.out]; exact hlt))
              have O6 := O5.setI k y (by rw [hvp.out]; exact hlt)
              have F6 := ((hFa.out.trans (Far.of_grew (F := fun x => x = wX.heap.size) (g3.trans g5)))).setCell (p := ⟨wX.heap.size, k, none⟩) rfl (.int .i64 y)
              rw [hs.out] at O6
              generalize w5.setCell ⟨wX.heap.size, k, none⟩ (.int .i64 y) = V6 at *
              clear O5 hx hfr x0 x1 x2 HG
              go_wp2_with fail
              go_roundg (K - (k + 1))
              case measure => omega
              case rel => exact ⟨k + 1, by omega, by go_num, Lib.hid O6, Lib.hid F6⟩
            · obtain rfl : k = K := by omega
              have hva := Lib.hid (bvalsPad_all S l k)
              rw [hva.out] at hO
              obtain ⟨_, r0, r1, q0, q1⟩ := TA.out.far hFa.out (by show ¬ w.heap.size = _; omega)
              have hz0 := (hFa.out.cell (p := ⟨sb, so, none⟩) (Nat.lt_of_lt_of_le hsb GA.out.size) (by show ¬ sb = _; omega)).trans ((GA.out.cell (p := ⟨sb, so, none⟩) hsb).trans HC0.out)
              have O6 := Lib.hid (hO.out.far (((Far.refl (fun x => x = w.heap.size) wr).setCell (p := ⟨w.heap.size, 0, none⟩) rfl (.int .u8 (a : Nat))).setCell (p := ⟨w.heap.size, 1, none⟩) rfl (.slice (some ⟨wX.heap.size, 0, none⟩) k k)) (fun x hx e => by have := hO.out.lt x hx; have : x = w.heap.size := e; omega))
              have OL := Lib.hid hO.out.lt
              have GR := Lib.hid (hFa.out.grew GA.out (fun x h => by have : x = wX.heap.size := h; omega))
              clear hO hFa HFI HLAY
              go_wp2_with fail
              refine bodyPost_ret (by simp [results, Tryz.results61, go_sem, r0, r1]; try rfl) rfl ?_
              rw [HP'.out]
              exact ⟨_, rfl, O6.out.row, fun _ x hx => by have := OL.out x hx; omega, twoC_put GR.out (Nat.le_refl _) _ _⟩
-- DEC]
end Go.Proofs.YtcdmbnbanopioaaGreatDoor

namespace Go.Proofs.YtcdmbnbanopioaaGreatDoor
open Go.RowKit
set_option linter.unusedVariables false

/- The program's dialogue: two rows of numbers compared; what an id says. -/
theorem take_zi (zs : List Int) (k : Nat) (h : k < zs.length) : zs.take (k + 1) = zs.take k ++ [zi zs k] := by
  rw [List.take_succ_eq_append_getElem h]
  unfold zi
  rw [List.getD_eq_getElem?_getD, List.getElem?_eq_getElem h]
  rfl
-- [EQUAL
set_option maxRecDepth 100000 in
set_option maxHeartbeats 4000000 in
theorem prg_equal (u v : Value) (zs ys : List Int) (w : World) (h1 : RowZ .i64 w u zs) (h2 : RowZ .i64 w v ys) (hl : zs.length ≤ 100000) :
    Calls Tryz.prog 58 #[u, v] w fun e w' => e = .returned (.bool (decide (zs = ys))) ∧ Grew w w' := by
  have H1 := Lib.hid h1
  have H2 := Lib.hid h2
  obtain ⟨A1, c1, rfl, hc1, hr1⟩ := h1
  obtain ⟨A2, c2, rfl, hc2, hr2⟩ := h2
  have HR1 := Lib.hid hr1
  have HR2 := Lib.hid hr2
  clear hr1 hr2
  go_enter Tryz.func58, Tryz.ntmps58
  by_cases hn : zs.length = ys.length
  · obtain ⟨n, hnn⟩ : ∃ n, ys.length = n := ⟨_, rfl⟩
    have hn2 := hn.trans hnn
    rw [hn2] at hl hc1 ⊢
    rw [hnn] at hc2 ⊢
    have HN := Lib.hid hnn
    have HM := Lib.hid hn2
    clear hn hn2 hnn
    go_wp2_with fail
    go_loopw [13] (fun i wr => ∃ k : Nat, k ≤ n ∧ i = .int .i64 (k : Nat) ∧ Hid (zs.take k = ys.take k) ∧ Hid (Grew w wr)) (fun i _ => n - (intOf i).toNat)
    case atStart => exact ⟨0, Nat.zero_le _, rfl, Lib.hid (by simp), Lib.hid (Grew.refl _)⟩
    case round =>
      obtain ⟨k, hk, rfl, HE, G⟩ := hrel
      by_cases hlt : k < n
      · obtain ⟨b1, o1, rfl, hb1, hx1⟩ := HR1.out (by rw [HM.out]; omega)
        obtain ⟨b2, o2, rfl, hb2, hx2⟩ := HR2.out (by rw [HN.out]; omega)
        have y1 := (G.out.cell (p := ⟨b1, o1 + k, none⟩) hb1).trans (hx1 k (by rw [HM.out]; exact hlt))
        have y2 := (G.out.cell (p := ⟨b2, o2 + k, none⟩) hb2).trans (hx2 k (by rw [HN.out]; exact hlt))
        have l1 := Nat.lt_of_lt_of_le hb1 G.out.size
        have l2 := Nat.lt_of_lt_of_le hb2 G.out.size
        have t1 := Lib.hid (take_zi zs k (by rw [HM.out]; exact hlt))
        have t2 := Lib.hid (take_zi ys k (by rw [HN.out]; exact hlt))
        have hki : (k : Int) < n := by omega
        obtain ⟨a, ha⟩ : ∃ a, zi zs k = a := ⟨_, rfl⟩
        obtain ⟨c, hcc⟩ : ∃ c, zi ys k = c := ⟨_, rfl⟩
        rw [ha] at y1 t1
        rw [hcc] at y2 t2
        clear hx1 hx2 ha hcc hb1 hb2
        go_upto_region 6 with fail
        have G6 := Lib.hid (G.out.drewN 0)
        by_cases e : a = c
        · subst e
          have hq : (a == a) = true := by simp
          go_quiet (fail)
          have G7 := Lib.hid (G.out.drewN nq)
          go_wp2_with fail
          go_round
          case rel => exact ⟨k + 1, by omega, by go_num, Lib.hid (by rw [t1.out, t2.out, HE.out]), G7⟩
          case measure => simp [intOf]; omega
        · have hq : (a == c) = false := by rw [beq_eq_false_iff_ne]; exact e
          go_quiet (fail)
          have G7 := Lib.hid (G.out.drewN nq)
          go_wp2_with fail
          go_ret
          have hne : ¬ zs = ys := by
            intro q
            apply e
            have h := t1.out.symm.trans ((congrArg (List.take (k + 1)) q).trans t2.out)
            rw [HE.out] at h
            have h := List.append_cancel_left h
            simpa using h
          exact ⟨by rw [decide_eq_false hne]; rfl, G7.out⟩
      · obtain rfl : k = n := by omega
        go_wp2_with fail
        go_ret
        have heq : zs = ys := by
          have h := HE.out
          rwa [List.take_of_length_le (by rw [HM.out]; exact Nat.le_refl _), List.take_of_length_le (by rw [HN.out]; exact Nat.le_refl _)] at h
        exact ⟨by rw [decide_eq_true heq]; rfl, G.out⟩
  · have hni : ¬ (zs.length : Int) = ys.length := by omega
    go_wp2_with fail
    go_ret
    have hne : ¬ zs = ys := fun q => hn (by rw [q])
    exact ⟨by rw [decide_eq_false hne]; rfl, Grew.refl _⟩
-- EQUAL]
/-- What an id says: 1 taken, 2 refused. -/
def ansOf (id yes no : Nat) : Nat := if id = yes then 1 else if id = no then 2 else 0
-- [ANSWER
set_option maxRecDepth 100000 in
set_option maxHeartbeats 4000000 in
theorem prg_answerOf (id yes no : Nat) (w : World) :
    Calls Tryz.prog 59 #[.int .u8 (id : Nat), .int .u8 (yes : Nat), .int .u8 (no : Nat)] w fun e w' => e = .returned (.int .i64 (ansOf id yes no : Nat)) ∧ w = w' := by
  go_enter Tryz.func59, Tryz.ntmps59
  unfold ansOf
  by_cases h1 : id = yes
  · subst h1
    rw [if_pos rfl]
    go_wp2_with fail
    go_ret
    exact ⟨rfl, rfl⟩
  · have n1 : ((id : Int) == yes) = false := by rw [beq_eq_false_iff_ne]; omega
    by_cases h2 : id = no
    · subst h2
      rw [if_neg h1, if_pos rfl]
      go_wp2_with fail
      go_ret
      exact ⟨rfl, rfl⟩
    · have n2 : ((id : Int) == no) = false := by rw [beq_eq_false_iff_ne]; omega
      rw [if_neg h1, if_neg h2]
      go_wp2_with fail
      go_ret
      exact ⟨rfl, rfl⟩
-- ANSWER]
/- The program's region that calls Decode of UBX and keeps what it tells in a variable, whatever comes up first. -/
noncomputable def pubOps : Array Oper := (Tryz.f56.body.map (regOps 3)).getD #[]
noncomputable def pubCode : Code := (Tryz.f56.body.bind (regCode 3)).getD .skip
def pubSh (ab b o o2 n cap a0 b0 er : Nat) : List (Value ⊕ Nat) := [.inl (.pointer (some ⟨ab, 1, none⟩)), .inl (.slice (some ⟨b, o, none⟩) n cap), .inl (.pointer (some ⟨b, o, none⟩)), .inl (.int .u8 (a0 : Nat)), .inl (.pointer (some ⟨ab, 1, none⟩)), .inl (.slice (some ⟨b, o, none⟩) n cap), .inl (.pointer (some ⟨b, o + 1, none⟩)), .inl (.int .u8 (b0 : Nat)), .inl (.pointer (some ⟨ab, 1, none⟩)), .inl (.slice (some ⟨b, o, none⟩) n cap), .inl (.slice (some ⟨b, o2, none⟩) (n - 2) (cap - 2)), .inr 0, .inr 0, .inr 1, .inl (.int .i64 (er : Nat)), .inr 2, .inr 4, .inl (.int .i64 (er : Nat))]
set_option maxRecDepth 1000000 in
set_option maxHeartbeats 8000000 in
theorem pub_call (ab b o o2 n cap a0 b0 er : Nat) (a1 b1 : Int) (zs : List Int) (W : World) (hc : o2 = if cap = 2 then o else o + 2) (hn : 2 ≤ n) (hcap : n ≤ cap) (hM : Hid (∀ w', Grew W w' → w'.cell? ⟨ab, 1, none⟩ = some (.slice (some ⟨b, o, none⟩) n cap) ∧ w'.cell? ⟨b, o, none⟩ = some (.int .u8 (a0 : Nat)) ∧ w'.cell? ⟨b, o + 1, none⟩ = some (.int .u8 (b0 : Nat))))
    (hD : Hid (∀ w', Grew W w' → Calls Tryz.prog 57 #[.int .u8 (a0 : Nat), .int .u8 (b0 : Nat), .slice (some ⟨b, o2, none⟩) (n - 2) (cap - 2)] w' fun e w'' => ∃ zv, e = .returned (.tuple #[.agg #[.int .u8 a1, .int .u8 b1, zv], .int .i64 (er : Nat)]) ∧ RowZ .i64 w'' zv zs ∧ Grew w' w'')) (K0 : Act → World → Prop) (t0 t1 t3 t4 t5 t6 t7 t8 t9 t10 t11 t12 t13 t14 t15 t16 t17 t18 t19 t20 t21 t22 t23 t24 t25 t26 t27 t28 t29 t30 t31 t32 t33 t34 t35 t36 t37 t38 t39 t40 t41 t42 t43 t44 t45 t46 t47 t48 t49 t50 t51 t52 : Value)
    (post : ∀ (p : Nat) (zv : Value) (w' : World) (s15 s16 s17 s18 s19 s20 s21 s22 s23 s24 s25 s26 s27 s28 s29 : Value), W.heap.size ≤ p → ThreeAt w' p (.int .u8 a1) (.int .u8 b1) zv → RowZ .i64 w' zv zs → Grew W w' → K0 ⟨#[t0, t1, .pointer (some ⟨ab, 0, none⟩), t3, .pointer (some ⟨p, 0, none⟩), .int .i64 (er : Nat), t6, t7, t8, t9, t10, t11, t12, t13, t14, s15, s16, s17, s18, s19, s20, s21, s22, s23, s24, s25, s26, s27, s28, s29, t30, t31, t32, t33, t34, t35, t36, t37, t38, t39, t40, t41, t42, t43, t44, t45, t46, t47, t48, t49, t50, t51, t52], []⟩ w') :
    Code.wp Tryz.prog pubCode (Exit.then K0 fun _ _ _ => False) ⟨#[t0, t1, .pointer (some ⟨ab, 0, none⟩), t3, t4, t5, t6, t7, t8, t9, t10, t11, t12, t13, t14, t15, t16, t17, t18, t19, t20, t21, t22, t23, t24, t25, t26, t27, t28, t29, t30, t31, t32, t33, t34, t35, t36, t37, t38, t39, t40, t41, t42, t43, t44, t45, t46, t47, t48, t49, t50, t51, t52], []⟩ W := by
  conv => arg 2; whnf
  refine wp_region_fill (n := 53) (ops := pubOps) (by kernel_rfl) (fun L i w' v => UCallS a1 b1 er zs W 16 ((pubSh ab b o o2 n cap a0 b0 er).getD i (.inr 4)) L w' v) ?_ ?_ ?_ ?_ ?_
  case refine_1 => kernel_rfl
  case refine_2 => kernel_rfl
  case refine_3 => rfl
  case refine_5 =>
    intro L c w' hL hdef hsz ho hd g
    obtain ⟨tm, df⟩ := c
    simp only at hdef hsz ho hd
    subst hdef
    obtain ⟨p, e4, hWp, _, h4⟩ := hd 15 4 (by kernel_rfl)
    rw [if_pos (hL 16 (of_decide_eq_true (by kernel_rfl)))] at h4
    obtain ⟨zv, hvar, hrow⟩ := h4
    have e5 : tm[5]?.getD undef = .int .i64 (er : Nat) := hd 17 5 (by kernel_rfl)
    have f0 : tm[0]?.getD undef = t0 := ho 0 (by kernel_rfl)
    have f1 : tm[1]?.getD undef = t1 := ho 1 (by kernel_rfl)
    have f2 : tm[2]?.getD undef = .pointer (some ⟨ab, 0, none⟩) := ho 2 (by kernel_rfl)
    have f3 : tm[3]?.getD undef = t3 := ho 3 (by kernel_rfl)
    have f6 : tm[6]?.getD undef = t6 := ho 6 (by kernel_rfl)
    have f7 : tm[7]?.getD undef = t7 := ho 7 (by kernel_rfl)
    have f8 : tm[8]?.getD undef = t8 := ho 8 (by kernel_rfl)
    have f9 : tm[9]?.getD undef = t9 := ho 9 (by kernel_rfl)
    have f10 : tm[10]?.getD undef = t10 := ho 10 (by kernel_rfl)
    have f11 : tm[11]?.getD undef = t11 := ho 11 (by kernel_rfl)
    have f12 : tm[12]?.getD undef = t12 := ho 12 (by kernel_rfl)
    have f13 : tm[13]?.getD undef = t13 := ho 13 (by kernel_rfl)
    have f14 : tm[14]?.getD undef = t14 := ho 14 (by kernel_rfl)
    have f30 : tm[30]?.getD undef = t30 := ho 30 (by kernel_rfl)
    have f31 : tm[31]?.getD undef = t31 := ho 31 (by kernel_rfl)
    have f32 : tm[32]?.getD undef = t32 := ho 32 (by kernel_rfl)
    have f33 : tm[33]?.getD undef = t33 := ho 33 (by kernel_rfl)
    have f34 : tm[34]?.getD undef = t34 := ho 34 (by kernel_rfl)
    have f35 : tm[35]?.getD undef = t35 := ho 35 (by kernel_rfl)
    have f36 : tm[36]?.getD undef = t36 := ho 36 (by kernel_rfl)
    have f37 : tm[37]?.getD undef = t37 := ho 37 (by kernel_rfl)
    have f38 : tm[38]?.getD undef = t38 := ho 38 (by kernel_rfl)
    have f39 : tm[39]?.getD undef = t39 := ho 39 (by kernel_rfl)
    have f40 : tm[40]?.getD undef = t40 := ho 40 (by kernel_rfl)
    have f41 : tm[41]?.getD undef = t41 := ho 41 (by kernel_rfl)
    have f42 : tm[42]?.getD undef = t42 := ho 42 (by kernel_rfl)
    have f43 : tm[43]?.getD undef = t43 := ho 43 (by kernel_rfl)
    have f44 : tm[44]?.getD undef = t44 := ho 44 (by kernel_rfl)
    have f45 : tm[45]?.getD undef = t45 := ho 45 (by kernel_rfl)
    have f46 : tm[46]?.getD undef = t46 := ho 46 (by kernel_rfl)
    have f47 : tm[47]?.getD undef = t47 := ho 47 (by kernel_rfl)
    have f48 : tm[48]?.getD undef = t48 := ho 48 (by kernel_rfl)
    have f49 : tm[49]?.getD undef = t49 := ho 49 (by kernel_rfl)
    have f50 : tm[50]?.getD undef = t50 := ho 50 (by kernel_rfl)
    have f51 : tm[51]?.getD undef = t51 := ho 51 (by kernel_rfl)
    have f52 : tm[52]?.getD undef = t52 := ho 52 (by kernel_rfl)
    have e : tm = #[tm[0]?.getD undef, tm[1]?.getD undef, tm[2]?.getD undef, tm[3]?.getD undef, tm[4]?.getD undef, tm[5]?.getD undef, tm[6]?.getD undef, tm[7]?.getD undef, tm[8]?.getD undef, tm[9]?.getD undef, tm[10]?.getD undef, tm[11]?.getD undef, tm[12]?.getD undef, tm[13]?.getD undef, tm[14]?.getD undef, tm[15]?.getD undef, tm[16]?.getD undef, tm[17]?.getD undef, tm[18]?.getD undef, tm[19]?.getD undef, tm[20]?.getD undef, tm[21]?.getD undef, tm[22]?.getD undef, tm[23]?.getD undef, tm[24]?.getD undef, tm[25]?.getD undef, tm[26]?.getD undef, tm[27]?.getD undef, tm[28]?.getD undef, tm[29]?.getD undef, tm[30]?.getD undef, tm[31]?.getD undef, tm[32]?.getD undef, tm[33]?.getD undef, tm[34]?.getD undef, tm[35]?.getD undef, tm[36]?.getD undef, tm[37]?.getD undef, tm[38]?.getD undef, tm[39]?.getD undef, tm[40]?.getD undef, tm[41]?.getD undef, tm[42]?.getD undef, tm[43]?.getD undef, tm[44]?.getD undef, tm[45]?.getD undef, tm[46]?.getD undef, tm[47]?.getD undef, tm[48]?.getD undef, tm[49]?.getD undef, tm[50]?.getD undef, tm[51]?.getD undef, tm[52]?.getD undef] := (arr_getS tm undef hsz).trans (by kernel_rfl)
    rw [e4, e5, f0, f1, f2, f3, f6, f7, f8, f9, f10, f11, f12, f13, f14, f30, f31, f32, f33, f34, f35, f36, f37, f38, f39, f40, f41, f42, f43, f44, f45, f46, f47, f48, f49, f50, f51, f52] at e
    rw [e]
    exact post p zv w' (tm[15]?.getD undef) (tm[16]?.getD undef) (tm[17]?.getD undef) (tm[18]?.getD undef) (tm[19]?.getD undef) (tm[20]?.getD undef) (tm[21]?.getD undef) (tm[22]?.getD undef) (tm[23]?.getD undef) (tm[24]?.getD undef) (tm[25]?.getD undef) (tm[26]?.getD undef) (tm[27]?.getD undef) (tm[28]?.getD undef) (tm[29]?.getD undef) hWp hvar hrow g
  simp only [AllFrom]
  refine ⟨?_, ?_, ?_, ?_, ?_, ?_, ?_, ?_, ?_, ?_, ?_, ?_, ?_, ?_, ?_, ?_, ?_, ?_, trivial⟩
  · intro L c w' hL ho hw hc' hd g
    have e0 : c.tmps[2]?.getD undef = .pointer (some ⟨ab, 0, none⟩) := ho 2 (by kernel_rfl)
    refine us_of hd g (by decide) (each_value (v := .pointer (some ⟨ab, 1, none⟩)) ?_ rfl)
    simp [execOp, go_sem, e0]
  · intro L c w' hL ho hw hc' hd g
    have e0 : c.tmps[16]?.getD undef = .pointer (some ⟨ab, 1, none⟩) := hd 0 16 (hw 0 (by kernel_rfl)) (by kernel_rfl)
    have hx := (hM.out _ g).1
    refine us_of hd g (by decide) (each_value (v := .slice (some ⟨b, o, none⟩) n cap) ?_ rfl)
    simp [execOp, go_sem, e0, hx]
  · intro L c w' hL ho hw hc' hd g
    have e0 : c.tmps[17]?.getD undef = .slice (some ⟨b, o, none⟩) n cap := hd 1 17 (hw 1 (by kernel_rfl)) (by kernel_rfl)
    have hb : 0 < n := by omega
    have hbi : (0 : Int) < n := by omega
    refine us_of hd g (by decide) (each_value (v := .pointer (some ⟨b, o, none⟩)) ?_ rfl)
    simp [execOp, go_sem, e0, hb]
  · intro L c w' hL ho hw hc' hd g
    have e0 : c.tmps[18]?.getD undef = .pointer (some ⟨b, o, none⟩) := hd 2 18 (hw 2 (by kernel_rfl)) (by kernel_rfl)
    have hx := (hM.out _ g).2.1
    refine us_of hd g (by decide) (each_value (v := .int .u8 (a0 : Nat)) ?_ rfl)
    simp [execOp, go_sem, e0, hx]
  · intro L c w' hL ho hw hc' hd g
    have e0 : c.tmps[2]?.getD undef = .pointer (some ⟨ab, 0, none⟩) := ho 2 (by kernel_rfl)
    refine us_of hd g (by decide) (each_value (v := .pointer (some ⟨ab, 1, none⟩)) ?_ rfl)
    simp [execOp, go_sem, e0]
  · intro L c w' hL ho hw hc' hd g
    have e0 : c.tmps[20]?.getD undef = .pointer (some ⟨ab, 1, none⟩) := hd 4 20 (hw 4 (by kernel_rfl)) (by kernel_rfl)
    have hx := (hM.out _ g).1
    refine us_of hd g (by decide) (each_value (v := .slice (some ⟨b, o, none⟩) n cap) ?_ rfl)
    simp [execOp, go_sem, e0, hx]
  · intro L c w' hL ho hw hc' hd g
    have e0 : c.tmps[21]?.getD undef = .slice (some ⟨b, o, none⟩) n cap := hd 5 21 (hw 5 (by kernel_rfl)) (by kernel_rfl)
    have hb : 1 < n := by omega
    have hbi : (1 : Int) < n := by omega
    refine us_of hd g (by decide) (each_value (v := .pointer (some ⟨b, o + 1, none⟩)) ?_ rfl)
    simp [execOp, go_sem, e0, hbi]
  · intro L c w' hL ho hw hc' hd g
    have e0 : c.tmps[22]?.getD undef = .pointer (some ⟨b, o + 1, none⟩) := hd 6 22 (hw 6 (by kernel_rfl)) (by kernel_rfl)
    have hx := (hM.out _ g).2.2
    refine us_of hd g (by decide) (each_value (v := .int .u8 (b0 : Nat)) ?_ rfl)
    simp [execOp, go_sem, e0, hx]
  · intro L c w' hL ho hw hc' hd g
    have e0 : c.tmps[2]?.getD undef = .pointer (some ⟨ab, 0, none⟩) := ho 2 (by kernel_rfl)
    refine us_of hd g (by decide) (each_value (v := .pointer (some ⟨ab, 1, none⟩)) ?_ rfl)
    simp [execOp, go_sem, e0]
  · intro L c w' hL ho hw hc' hd g
    have e0 : c.tmps[24]?.getD undef = .pointer (some ⟨ab, 1, none⟩) := hd 8 24 (hw 8 (by kernel_rfl)) (by kernel_rfl)
    have hx := (hM.out _ g).1
    refine us_of hd g (by decide) (each_value (v := .slice (some ⟨b, o, none⟩) n cap) ?_ rfl)
    simp [execOp, go_sem, e0, hx]
  · intro L c w' hL ho hw hc' hd g
    have e0 : c.tmps[25]?.getD undef = .slice (some ⟨b, o, none⟩) n cap := hd 9 25 (hw 9 (by kernel_rfl)) (by kernel_rfl)
    refine us_of hd g (by decide) (each_value (v := .slice (some ⟨b, o2, none⟩) (n - 2) (cap - 2)) ?_ rfl)
    have h2 : 2 ≤ cap := by omega
    have h3 : ¬ (n : Int) < 2 := by omega
    by_cases q : cap = 2
    · rw [if_pos q] at hc
      subst q
      simp [execOp, go_sem, e0, hc, h3]
    · rw [if_neg q] at hc
      simp [execOp, go_sem, e0, hc, h3, q]
  · intro L c w' hL ho hw hc' hd g
    have e1 : c.tmps[19]?.getD undef = .int .u8 (a0 : Nat) := hd 3 19 (hw 3 (by kernel_rfl)) (by kernel_rfl)
    have e2 : c.tmps[23]?.getD undef = .int .u8 (b0 : Nat) := hd 7 23 (hw 7 (by kernel_rfl)) (by kernel_rfl)
    have e3 : c.tmps[26]?.getD undef = .slice (some ⟨b, o2, none⟩) (n - 2) (cap - 2) := hd 10 26 (hw 10 (by kernel_rfl)) (by kernel_rfl)
    exact us_of hd g (by decide) (each_call (f := 57) (args := #[.int .u8 (a0 : Nat), .int .u8 (b0 : Nat), .slice (some ⟨b, o2, none⟩) (n - 2) (cap - 2)]) (by simp [go_sem, e1, e2, e3]) ((hD.out _ g).mono (by rintro e w'' ⟨zv, rfl, hk, g'⟩; exact ⟨_, rfl, ⟨zv, rfl, hk⟩, g'⟩)))
  · intro L c w' hL ho hw hc' hd g
    obtain ⟨zv, e1, hl⟩ : ∃ zv, c.tmps[27]?.getD undef = .tuple #[.agg #[.int .u8 a1, .int .u8 b1, zv], .int .i64 (er : Nat)] ∧ RowZ .i64 w' zv zs := hd 11 27 (hw 11 (by kernel_rfl)) (by kernel_rfl)
    refine us_of hd g (by decide) (each_value (v := .tuple #[.agg #[.int .u8 a1, .int .u8 b1, zv], .int .i64 (er : Nat)]) ?_ ⟨zv, rfl, hl⟩)
    simp [execOp, go_sem, e1]
  · intro L c w' hL ho hw hc' hd g
    obtain ⟨zv, e1, hl⟩ : ∃ zv, c.tmps[15]?.getD undef = .tuple #[.agg #[.int .u8 a1, .int .u8 b1, zv], .int .i64 (er : Nat)] ∧ RowZ .i64 w' zv zs := hd 12 15 (hw 12 (by kernel_rfl)) (by kernel_rfl)
    refine us_of hd g (by decide) (each_value (v := .agg #[.int .u8 a1, .int .u8 b1, zv]) ?_ ⟨zv, rfl, hl⟩)
    simp [execOp, go_sem, e1]
  · intro L c w' hL ho hw hc' hd g
    obtain ⟨zv, e1, hl⟩ : ∃ zv, c.tmps[15]?.getD undef = .tuple #[.agg #[.int .u8 a1, .int .u8 b1, zv], .int .i64 (er : Nat)] ∧ RowZ .i64 w' zv zs := hd 12 15 (hw 12 (by kernel_rfl)) (by kernel_rfl)
    refine us_of hd g (by decide) (each_value (v := .int .i64 (er : Nat)) ?_ rfl)
    simp [execOp, go_sem, e1]
  · intro L c w' hL ho hw hc' hd g
    have hn : L 16 = false := by
      cases q : L 16 with
      | false => rfl
      | true => have := hc' 16 15 q (by kernel_rfl); rw [hL] at this; cases this
    refine us_of hd g (by decide) (each_made (v := .pointer (some ⟨w'.heap.size, 0, none⟩)) (w1 := w'.alloc (.cells #[.int .u8 0, .int .u8 0, .slice none 0 0] 37)) ?_ ((Grew.refl _).alloc _) ⟨_, rfl, g.size, by simp, ?_⟩)
    · simp [execOp, go_sem]
    · rw [also_ne (by decide), hn, if_neg (by decide)]
      exact heap_alloc_new _ _
  · intro L c w' hL ho hw hc' hd g
    exact us_store (ops := pubOps) (sh := (pubSh ab b o o2 n cap a0 b0 er)) (u := 4) (t := 28) rfl rfl hd g (hd 15 4 (hw 15 (by kernel_rfl)) (by kernel_rfl)) (hd 13 28 (hw 13 (by kernel_rfl)) (by kernel_rfl)) hL (by kernel_rfl)
  · intro L c w' hL ho hw hc' hd g
    have e0 : c.tmps[29]?.getD undef = .int .i64 (er : Nat) := hd 14 29 (hw 14 (by kernel_rfl)) (by kernel_rfl)
    refine us_of hd g (by decide) (each_value (v := .int .i64 (er : Nat)) ?_ rfl)
    simp [execOp, go_sem, e0]
/- The program's dialogue: what a frame says of a command: the two closures. -/
/-- What a UBX frame, a SiRF frame says of a command. -/
def aUbx (q : Cmd) (k : Nat) (S : List Nat) : Nat :=
  if k = 2 ∧ 2 ≤ S.length ∧ (ubxDec (wd S 0 * 256 + wd S 1) (S.drop 2)).2 = 0 ∧ wd S 0 = 5 ∧ (ubxDec (wd S 0 * 256 + wd S 1) (S.drop 2)).1 = [(q.cls : Int), (q.id : Int)] then ansOf (wd S 1) 1 0 else 0
def aSrf (q : Cmd) (k : Nat) (S : List Nat) : Nat :=
  if k = 3 ∧ (srfDec S).2.2 = 0 ∧ (srfDec S).2.1 = [(q.id : Int)] then ansOf (srfDec S).1 11 12 else 0
theorem rowZ_two (w : World) (x y : Int) (E : TypeId) : RowZ .i64 (w.alloc (.cells #[.int .i64 x, .int .i64 y] E)) (.slice (some ⟨w.heap.size, 0, none⟩) 2 2) [x, y] :=
  ⟨_, 2, rfl, Nat.le_refl _, fun _ => ⟨_, 0, rfl, by simp, fun i hi => by
    match i, hi with
    | 0, _ => simp [go_sem, zi]
    | 1, _ => simp [go_sem, zi]⟩⟩
theorem rowZ_one (w : World) (x : Int) (E : TypeId) : RowZ .i64 (w.alloc (.cells #[.int .i64 x] E)) (.slice (some ⟨w.heap.size, 0, none⟩) 1 1) [x] :=
  ⟨_, 1, rfl, Nat.le_refl _, fun _ => ⟨_, 0, rfl, by simp, fun i hi => by
    match i, hi with
    | 0, _ => simp [go_sem, zi]⟩⟩
-- [ANSB
set_option maxRecDepth 100000 in
set_option maxHeartbeats 4000000 in
theorem prg_ans2 (cb : Nat) (q : Cmd) (k : Nat) (v : Value) (S : List Nat) (w : World) (lb : cb < w.heap.size) (d3 : w.cell? ⟨cb, 3, none⟩ = some (.int .u8 (q.id : Nat))) (ki : q.id < 256) (hk : k < 256) (hr : Row .u8 w v S) (hB : Bytes S) (hl : S.length ≤ 100000) :
    Calls Tryz.prog 60 #[.agg #[.int .u8 (k : Nat), v], .pointer (some ⟨cb, 0, none⟩)] w fun e w' => e = .returned (.int .i64 (aSrf q k S : Nat)) ∧ Grew w w' := by
  have HR := Lib.hid hr
  obtain ⟨A, c, rfl, hc, _⟩ := hr
  by_cases hk3 : k = 3
  · subst hk3
    have HDEC := fun w' (G : Grew w w') => Lib.hid (srp_Decode _ S w' (HR.out.grew G) hB hl)
    have hans : aSrf q 3 S = if (srfDec S).2.2 = 0 ∧ (srfDec S).2.1 = [(q.id : Int)] then ansOf (srfDec S).1 11 12 else 0 := by
      unfold aSrf
      by_cases z : (srfDec S).2.2 = 0 ∧ (srfDec S).2.1 = [(q.id : Int)]
      · rw [if_pos ⟨rfl, z⟩, if_pos z]
      · rw [if_neg (fun y => z y.2), if_neg z]
    have hzl : (srfDec S).2.1.length ≤ 100000 := by
      unfold srfDec
      split
      · simp
      · split
        · simp
        · split
          · simp
          · simp only [bvalsTo_length]
            have := (srf_layOk (wd S 0)).even
            omega
    unfold DecS at HDEC
    generalize hrr : srfDec S = rr at *
    obtain ⟨m, zs, er⟩ := rr
    simp only at HDEC hans hzl
    have HANS := Lib.hid hans
    clear hans hrr
    go_enter Tryz.func60, Tryz.ntmps60
    go_upto_region 1 with fail
    obtain ⟨W, hW, g0, T0⟩ := twoC_new w (.int .u8 3) (.slice A S.length c) 49
    rw [hW]
    clear hW
    obtain ⟨_, s0, s1, _, _⟩ := T0
    have HD := HDEC _ g0
    clear HDEC
    go_upto_region 4 with (go_at_call 61; refine HD.out.mono ?_; rintro e w4 ⟨zv, rfl, hrow, _, g4⟩; have HROW := Lib.hid hrow; obtain ⟨ZA, zc, rfl, hzc⟩ := hrow.form; clear hrow)
    obtain ⟨V, hV, gV, TV⟩ := twoC_new w4 (.int .u8 (m : Nat)) (.slice ZA zs.length zc) 40
    rw [hV]
    clear hV
    have GG := Lib.hid ((g0.trans g4).trans gV)
    obtain ⟨lv, v0, v1, _, _⟩ := TV
    have u3 := (GG.out.cell (p := ⟨cb, 3, none⟩) lb).trans d3
    have lcb := Nat.lt_of_lt_of_le lb GG.out.size
    by_cases her : er = 0
    · subst her
      have gA := (Grew.refl V).alloc (.cells #[.int .i64 (q.id : Nat)] 2)
      have HE := Lib.hid (prg_equal _ _ zs [(q.id : Int)] _ ((HROW.out.grew gV).grew gA) (rowZ_one V (q.id : Nat) 2) hzl)
      have GA := Lib.hid gA
      have m3 : IntKind.i64.wrap (q.id : Int) = (q.id : Int) := IntWalk.i64_in _ (by omega)
      have HA1 : Hid (∀ w, Calls Tryz.prog 59 #[.int .u8 (m : Nat), .int .u8 11, .int .u8 12] w fun e w' => e = .returned (.int .i64 (ansOf (m) 11 12 : Nat)) ∧ w = w') := Lib.hid (fun w => prg_answerOf m 11 12 w)
      clear gA s0 s1 d3 HD
      by_cases hz : zs = [(q.id : Int)]
      · have hyes : Hid (aSrf q 3 S = ansOf m 11 12) := Lib.hid (by rw [HANS.out, if_pos ⟨rfl, hz⟩])
        rw [decide_eq_true hz] at HE
        clear hz
        have HVV := fun w' (G : Grew V w') => (⟨Nat.lt_of_lt_of_le lv G.size, (G.cell (p := ⟨w4.heap.size, 0, none⟩) lv).trans v0⟩ : w4.heap.size < w'.heap.size ∧ w'.cell? ⟨w4.heap.size, 0, none⟩ = some (.int .u8 (m : Nat)))
        replace HVV := Lib.hid HVV
        go_upto_region 6 with (go_at_call 58; refine HE.out.mono ?_; rintro e w5 ⟨rfl, g5⟩; have G5 := Lib.hid (GA.out.trans g5); clear lv v0; obtain ⟨lv, v0⟩ := HVV.out _ G5.out)
        go_wp2_with (go_at_call 59; refine (HA1.out _).mono ?_; rintro e w6 ⟨rfl, hw6⟩; subst hw6)
        go_ret
        rw [hyes.out]
        exact ⟨rfl, GG.out.trans G5.out⟩
      · have hno : Hid (aSrf q 3 S = 0) := Lib.hid (by rw [HANS.out, if_neg (fun y => hz y.2)])
        rw [decide_eq_false hz] at HE
        clear hz
        go_wp2_with (go_at_call 58; refine HE.out.mono ?_; rintro e w5 ⟨rfl, g5⟩; have G5 := Lib.hid (GA.out.trans g5))
        go_ret
        rw [hno.out]
        exact ⟨rfl, GG.out.trans G5.out⟩
    · have ner : ¬ (er : Int) = 0 := by omega
      have hno : Hid (aSrf q 3 S = 0) := Lib.hid (by rw [HANS.out, if_neg (fun y => her y.1)])
      go_wp2_with fail
      go_ret
      rw [hno.out]
      exact ⟨rfl, GG.out⟩
  · have nk3 : ¬ (k : Int) = 3 := by omega
    have hno : Hid (aSrf q k S = 0) := Lib.hid (by unfold aSrf; rw [if_neg (fun y => hk3 y.1)])
    go_enter Tryz.func60, Tryz.ntmps60
    go_upto_region 1 with fail
    obtain ⟨W, hW, g0, T0⟩ := twoC_new w (.int .u8 (k : Nat)) (.slice A S.length c) 49
    rw [hW]
    clear hW
    obtain ⟨_, s0, s1, _, _⟩ := T0
    go_wp2_with fail
    go_ret
    rw [hno.out]
    exact ⟨rfl, g0⟩
-- ANSB]
/- The program's dialogue: what a UBX frame says of a command. -/
-- [ANSA
set_option maxRecDepth 100000 in
set_option maxHeartbeats 4000000 in
theorem prg_ans1 (cb : Nat) (q : Cmd) (k : Nat) (v : Value) (S : List Nat) (w : World) (lb : cb < w.heap.size) (d2 : w.cell? ⟨cb, 2, none⟩ = some (.int .u8 (q.cls : Nat))) (d3 : w.cell? ⟨cb, 3, none⟩ = some (.int .u8 (q.id : Nat))) (kc : q.cls < 256) (ki : q.id < 256) (hk : k < 256) (hr : Row .u8 w v S) (hB : Bytes S) (hl : S.length ≤ 100000) :
    Calls Tryz.prog 56 #[.agg #[.int .u8 (k : Nat), v], .pointer (some ⟨cb, 0, none⟩)] w fun e w' => e = .returned (.int .i64 (aUbx q k S : Nat)) ∧ Grew w w' := by
  have HR := Lib.hid hr
  obtain ⟨A, c, rfl, hc, hrow⟩ := hr
  have hr1 := Lib.hid hrow
  clear hrow
  by_cases hk2 : k = 2
  · subst hk2
    by_cases hl2 : 2 ≤ S.length
    · obtain ⟨b, o, rfl, hb, hcell⟩ := hr1.out (by omega)
      have x0 := hcell 0 (by omega)
      have x1 := hcell 1 (by omega)
      rw [Nat.add_zero] at x0
      have hl2' : ¬ (S.length : Int) < 2 := by omega
      clear hr1 hcell
      go_enter Tryz.func56, Tryz.ntmps56
      go_upto_region 1 with fail
      obtain ⟨W, hW, g0, T0⟩ := twoC_new w (.int .u8 2) (.slice (some ⟨b, o, none⟩) S.length c) 49
      rw [hW]
      clear hW
      have T1 := Lib.hid T0
      obtain ⟨_, s0, s1, _, _⟩ := T0
      go_upto_region 3 with fail
      have hB2 : Bytes (S.drop 2) := fun i => by rw [wd_drop]; exact hB _
      have HCUT := ((HR.out.grew g0).cut 2 hl2)
      obtain ⟨o2, ho2⟩ : ∃ o2, o2 = if c = 2 then o else o + 2 := ⟨_, rfl⟩
      have ecut : (if c = 2 then (⟨b, o, none⟩ : Addr) else ⟨b, o + 2, none⟩) = ⟨b, o2, none⟩ := by rw [ho2]; split <;> rfl
      rw [ecut] at HCUT
      have HDEC := fun w' (G : Grew W w') => ubp_Decode (wd S 0) (wd S 1) _ (S.drop 2) w' (hB 0) (hB 1) (HCUT.grew G) hB2 (by rw [List.length_drop]; omega)
      have y0 := (g0.cell (p := ⟨b, o, none⟩) hb).trans x0
      have y1 := (g0.cell (p := ⟨b, o + 1, none⟩) hb).trans x1
      have hbW := Nat.lt_of_lt_of_le hb g0.size
      have K := Lib.hid (fun w' (G : Grew W w') => (⟨(T1.out.grew G).c1, (G.cell (p := ⟨b, o, none⟩) hbW).trans y0, (G.cell (p := ⟨b, o + 1, none⟩) hbW).trans y1⟩ : w'.cell? ⟨w.heap.size, 1, none⟩ = some (.slice (some ⟨b, o, none⟩) S.length c) ∧ w'.cell? ⟨b, o, none⟩ = some (.int .u8 (wd S 0 : Nat)) ∧ w'.cell? ⟨b, o + 1, none⟩ = some (.int .u8 (wd S 1 : Nat))))
      have hans : aUbx q 2 S = if (ubxDec (wd S 0 * 256 + wd S 1) (S.drop 2)).2 = 0 ∧ wd S 0 = 5 ∧ (ubxDec (wd S 0 * 256 + wd S 1) (S.drop 2)).1 = [(q.cls : Int), (q.id : Int)] then ansOf (wd S 1) 1 0 else 0 := by
        unfold aUbx
        by_cases z : (ubxDec (wd S 0 * 256 + wd S 1) (S.drop 2)).2 = 0 ∧ wd S 0 = 5 ∧ (ubxDec (wd S 0 * 256 + wd S 1) (S.drop 2)).1 = [(q.cls : Int), (q.id : Int)]
        · rw [if_pos ⟨rfl, hl2, z⟩, if_pos z]
        · rw [if_neg (fun y => z y.2.2), if_neg z]
      unfold DecT at HDEC
      have hzl : (ubxDec (wd S 0 * 256 + wd S 1) (S.drop 2)).1.length ≤ 100000 := by
        unfold ubxDec
        split
        · simp
        · split
          · simp
          · simp only [valsTo_length]
            have := (ubx_layOk (wd S 0 * 256 + wd S 1)).even
            omega
      generalize hrr : ubxDec (wd S 0 * 256 + wd S 1) (S.drop 2) = rr at *
      obtain ⟨zs, er⟩ := rr
      simp only at HDEC hans hzl
      have HANS := Lib.hid hans
      have HD : Hid (∀ w', Grew W w' → Calls Tryz.prog 57 #[.int .u8 (wd S 0 : Nat), .int .u8 (wd S 1 : Nat), .slice (some ⟨b, o2, none⟩) (S.length - 2) (c - 2)] w' fun e w'' => ∃ zv, e = .returned (.tuple #[.agg #[.int .u8 ((if er = 0 then wd S 0 else 0 : Nat) : Int), .int .u8 ((if er = 0 then wd S 1 else 0 : Nat) : Int), zv], .int .i64 (er : Nat)]) ∧ RowZ .i64 w'' zv zs ∧ Grew w' w'') := Lib.hid (fun w' G => (HDEC w' G).mono (fun e w'' ⟨zv, e1, h1, _, h2⟩ => ⟨zv, e1, h1, h2⟩))
      clear HCUT hB2 x0 x1 s0 HR HDEC ecut hans hrr
      go_cut [4, 5] (fun s t wx => ∃ (p : Nat) (zv : Value), s = .pointer (some ⟨p, 0, none⟩) ∧ t = .int .i64 (er : Nat) ∧ Hid (ThreeAt wx p (.int .u8 ((if er = 0 then wd S 0 else 0 : Nat) : Int)) (.int .u8 ((if er = 0 then wd S 1 else 0 : Nat) : Int)) zv) ∧ Hid (RowZ .i64 wx zv zs) ∧ Hid (Grew W wx))
      case first =>
        refine wp_thenS (pub_call w.heap.size b o o2 S.length c (wd S 0) (wd S 1) er _ _ zs W ho2 hl2 hc K HD _ _ _ _ _ _ _ _ _ _ _ _ _ _ _ _ _ _ _ _ _ _ _ _ _ _ _ _ _ _ _ _ _ _ _ _ _ _ _ _ _ _ _ _ _ _ _ _ _ _ _ _ _ (fun p zv wx s15 s16 s17 s18 s19 s20 s21 s22 s23 s24 s25 s26 s27 s28 s29 hWp hvar hrow hg => ?_))
        go_wp2_with fail
        go_meet
        case rel => exact ⟨p, zv, rfl, rfl, Lib.hid hvar, Lib.hid hrow, Lib.hid hg⟩
      case rest =>
        obtain ⟨p, zv, rfl, rfl, hvar, hrow, hg⟩ := hcut
        obtain ⟨wX, hwX⟩ : ∃ x, x = wc := ⟨_, rfl⟩
        subst hwX
        have GG := Lib.hid (g0.trans hg.out)
        obtain ⟨lp, v0, v1, v2, _, _, _⟩ := hvar.out
        have u2 := (GG.out.cell (p := ⟨cb, 2, none⟩) lb).trans d2
        have u3 := (GG.out.cell (p := ⟨cb, 3, none⟩) lb).trans d3
        have lcb := Nat.lt_of_lt_of_le lb GG.out.size
        obtain ⟨ZA, zc, rfl, hzc, _⟩ := id hrow.out
        by_cases her : er = 0
        · subst her
          rw [if_pos rfl] at v0 v1
          by_cases h5 : wd S 0 = 5
          · have gA := (Grew.refl wX).alloc (.cells #[.int .i64 (q.cls : Nat), .int .i64 (q.id : Nat)] 2)
            have HE := Lib.hid (prg_equal _ _ zs [(q.cls : Int), (q.id : Int)] _ (hrow.out.grew gA) (rowZ_two wX (q.cls : Nat) (q.id : Nat) 2) hzl)
            have GA := Lib.hid gA
            have m2 : IntKind.i64.wrap (q.cls : Int) = (q.cls : Int) := IntWalk.i64_in _ (by omega)
            have m3 : IntKind.i64.wrap (q.id : Int) = (q.id : Int) := IntWalk.i64_in _ (by omega)
            rw [h5] at v0
            have HA1 : Hid (∀ w, Calls Tryz.prog 59 #[.int .u8 (wd S 1 : Nat), .int .u8 1, .int .u8 0] w fun e w' => e = .returned (.int .i64 (ansOf (wd S 1) 1 0 : Nat)) ∧ w = w') := Lib.hid (fun w => prg_answerOf (wd S 1) 1 0 w)
            clear gA K HD d2 d3 y0 y1 s1
            by_cases hz : zs = [(q.cls : Int), (q.id : Int)]
            · have hyes : Hid (aUbx q 2 S = ansOf (wd S 1) 1 0) := Lib.hid (by rw [HANS.out, if_pos ⟨rfl, h5, hz⟩])
              rw [decide_eq_true hz] at HE
              clear hz
              have HVV := fun w' (G : Grew wX w') => (⟨Nat.lt_of_lt_of_le lp G.size, (G.cell (p := ⟨p, 1, none⟩) lp).trans v1⟩ : p < w'.heap.size ∧ w'.cell? ⟨p, 1, none⟩ = some (.int .u8 (wd S 1 : Nat)))
              replace HVV := Lib.hid HVV
              go_upto_region 6 with (go_at_call 58; refine HE.out.mono ?_; rintro e w5 ⟨rfl, g5⟩; have G5 := Lib.hid (GA.out.trans g5); clear lp v1; obtain ⟨lp, v1⟩ := HVV.out _ G5.out)
              go_wp2_with (go_at_call 59; refine (HA1.out _).mono ?_; rintro e w6 ⟨rfl, hw6⟩; subst hw6)
              go_ret
              rw [hyes.out]
              exact ⟨rfl, GG.out.trans G5.out⟩
            · have hno : Hid (aUbx q 2 S = 0) := Lib.hid (by rw [HANS.out, if_neg (fun y => hz y.2.2)])
              rw [decide_eq_false hz] at HE
              clear hz
              go_wp2_with (go_at_call 58; refine HE.out.mono ?_; rintro e w5 ⟨rfl, g5⟩; have G5 := Lib.hid (GA.out.trans g5))
              go_ret
              rw [hno.out]
              exact ⟨rfl, GG.out.trans G5.out⟩
          · have hno : Hid (aUbx q 2 S = 0) := Lib.hid (by rw [HANS.out, if_neg (fun y => h5 y.2.1)])
            have n5 : ¬ (wd S 0 : Int) = 5 := by omega
            go_wp2_with fail
            go_ret
            rw [hno.out]
            exact ⟨rfl, GG.out⟩
        · have ner : ¬ (er : Int) = 0 := by omega
          have hno : Hid (aUbx q 2 S = 0) := Lib.hid (by rw [HANS.out, if_neg (fun y => her y.1)])
          go_wp2_with fail
          go_ret
          rw [hno.out]
          exact ⟨rfl, GG.out⟩
    · have n2 : (S.length : Int) < 2 := by omega
      have hno : Hid (aUbx q 2 S = 0) := Lib.hid (by unfold aUbx; rw [if_neg (fun y => hl2 y.2.1)])
      go_enter Tryz.func56, Tryz.ntmps56
      go_upto_region 1 with fail
      obtain ⟨W, hW, g0, T0⟩ := twoC_new w (.int .u8 2) (.slice A S.length c) 49
      rw [hW]
      clear hW
      obtain ⟨_, s0, s1, _, _⟩ := T0
      go_wp2_with fail
      go_ret
      rw [hno.out]
      exact ⟨rfl, g0⟩
  · have nk2 : ¬ (k : Int) = 2 := by omega
    have hno : Hid (aUbx q k S = 0) := Lib.hid (by unfold aUbx; rw [if_neg (fun y => hk2 y.1)])
    go_enter Tryz.func56, Tryz.ntmps56
    go_upto_region 1 with fail
    obtain ⟨W, hW, g0, T0⟩ := twoC_new w (.int .u8 (k : Nat)) (.slice A S.length c) 49
    rw [hW]
    clear hW
    obtain ⟨_, s0, s1, _, _⟩ := T0
    go_wp2_with fail
    go_ret
    rw [hno.out]
    exact ⟨rfl, g0⟩
-- ANSA]
/- The program's dialogue: the map of closures: it is made; one is looked up. -/
theorem amap_under : Tryz.prog.underlying 74 = some (.map 5 72) := by kernel_rfl
/-- An entry is laid whose key is none of the map's. -/
theorem arun_insert (w : World) (m a : Nat) (es : Array MapEntry) (clk : Nat) (v : Value) (hm : w.heap[m]? = some (.map es clk)) (h : ∀ e ∈ es.toList, ∃ c : Nat, e.key = .int .u8 (c : Nat) ∧ a ≠ c) :
    (Instr.mapUpdate 74 (.map (some m)) (.int .u8 (a : Nat)) v).run Tryz.prog w = .ok () (Go.ChangeMaps.setBlock w m (.map (es.push { key := .int .u8 (a : Nat), val := v, born := clk }) (clk + 1))) := by
  have hks : ∀ x ∈ es.toList, MapKept.IsKey (.int .u8) x.key := fun x hx => by obtain ⟨c, e, _⟩ := h x hx; rw [e]; exact byte_key c
  rcases MapKept.findNow_spec (byte_key a) es.toList 0 hks with ⟨h1, _⟩ | ⟨j, e, _, h2, h3⟩
  · unfold Instr.mapUpdate
    simp only [Sem.run_bind, run_underlying amap_under, Result.andThen_ok, MapKept.run_getObj_map hm, MapKept.run_checkKey byte_under (byte_key a), MapKept.run_findKey byte_under h1, MapKept.run_setObj_map _ hm]
    rfl
  · exfalso
    obtain ⟨c, e1, e2⟩ := h e (List.mem_of_getElem? h2)
    exact skey_ne e2 (h3.symm.trans e1)
/-- A key that the map has. -/
theorem arun_hit (w : World) (m a : Nat) (es : Array MapEntry) (clk : Nat) (hm : w.heap[m]? = some (.map es clk)) (h : ∀ e ∈ es.toList, ∃ c : Nat, e.key = .int .u8 (c : Nat)) (hx : ∃ e ∈ es.toList, e.key = .int .u8 (a : Nat)) :
    ∃ e ∈ es.toList, e.key = .int .u8 (a : Nat) ∧ (Instr.lookup 74 (.map (some m)) (.int .u8 (a : Nat)) true).run Tryz.prog w = .ok (.tuple #[e.val, .bool true]) w := by
  have hks : ∀ x ∈ es.toList, MapKept.IsKey (.int .u8) x.key := fun x hx => by obtain ⟨c, e⟩ := h x hx; rw [e]; exact byte_key c
  rcases MapKept.findNow_spec (byte_key a) es.toList 0 hks with ⟨_, h1⟩ | ⟨j, e, h1, h2, h3⟩
  · obtain ⟨e, he, hk⟩ := hx
    exact absurd hk (h1 e he)
  · refine ⟨e, List.mem_of_getElem? h2, h3, ?_⟩
    unfold Instr.lookup
    simp only [Sem.run_bind, run_underlying amap_under, Result.andThen_ok, MapKept.run_getObj_map hm, Sem.run_pure, MapKept.run_checkKey byte_under (byte_key a), MapKept.run_findKey byte_under h1]
    rfl
def ansV (a cb : Nat) : Value := if a = 1 then .func (.func 56) #[] #[.pointer (some ⟨cb, 0, none⟩)] else .func (.func 60) #[] #[.pointer (some ⟨cb, 0, none⟩)]
/-- The map of the two closures over a command's variable in block cb. -/
structure AnsAt (w : World) (m cb : Nat) (q : Cmd) : Prop where
  map : w.heap[m]? = some (.map #[{ key := .int .u8 ((1 : Nat) : Int), val := ansV 1 cb, born := 0 }, { key := .int .u8 ((2 : Nat) : Int), val := ansV 2 cb, born := 1 }] 2)
  lt : cb < w.heap.size
  c2 : w.cell? ⟨cb, 2, none⟩ = some (.int .u8 (q.cls : Nat))
  c3 : w.cell? ⟨cb, 3, none⟩ = some (.int .u8 (q.id : Nat))
theorem AnsAt.grew {w w' : World} {m cb : Nat} {q : Cmd} (h : AnsAt w m cb q) (g : Grew w w') : AnsAt w' m cb q :=
  ⟨(Below.block g m (Array.getElem?_eq_some_iff.1 h.map).1).trans h.map, Nat.lt_of_lt_of_le h.lt g.size, (g.cell (p := ⟨cb, 2, none⟩) h.lt).trans h.c2, (g.cell (p := ⟨cb, 3, none⟩) h.lt).trans h.c3⟩
theorem AnsAt.look {w : World} {m cb a : Nat} {q : Cmd} (h : AnsAt w m cb q) (ha : a = 1 ∨ a = 2) : (Instr.lookup 74 (.map (some m)) (.int .u8 (a : Nat)) true).run Tryz.prog w = .ok (.tuple #[ansV a cb, .bool true]) w := by
  have h1 : ∀ e ∈ (#[{ key := .int .u8 ((1 : Nat) : Int), val := ansV 1 cb, born := 0 }, { key := .int .u8 ((2 : Nat) : Int), val := ansV 2 cb, born := 1 }] : Array MapEntry).toList, ∃ c : Nat, e.key = .int .u8 (c : Nat) ∧ e.val = ansV c cb := by
    intro e he
    rcases List.mem_cons.1 he with rfl | he
    · exact ⟨1, rfl, rfl⟩
    · rcases List.mem_cons.1 he with rfl | he
      · exact ⟨2, rfl, rfl⟩
      · exact absurd he (by simp)
  have h2 : ∃ e ∈ (#[{ key := .int .u8 ((1 : Nat) : Int), val := ansV 1 cb, born := 0 }, { key := .int .u8 ((2 : Nat) : Int), val := ansV 2 cb, born := 1 }] : Array MapEntry).toList, e.key = .int .u8 (a : Nat) := by
    rcases ha with rfl | rfl
    · exact ⟨_, List.mem_cons_self, rfl⟩
    · exact ⟨_, List.mem_cons_of_mem _ List.mem_cons_self, rfl⟩
  obtain ⟨e, he, hk, hr⟩ := arun_hit w m a _ _ h.map (fun e he => by obtain ⟨c, q, _⟩ := h1 e he; exact ⟨c, q⟩) h2
  obtain ⟨c, q1, q2⟩ := h1 e he
  rw [q1] at hk
  have : c = a := by simp at hk; omega
  subst this
  rw [hr, q2]
theorem AnsAt.look1 {w : World} {m cb : Nat} {q : Cmd} (h : AnsAt w m cb q) : (Instr.lookup 74 (.map (some m)) (.int .u8 1) true).run Tryz.prog w = .ok (.tuple #[.func (.func 56) #[] #[.pointer (some ⟨cb, 0, none⟩)], .bool true]) w := h.look (a := 1) (.inl rfl)
theorem AnsAt.look2 {w : World} {m cb : Nat} {q : Cmd} (h : AnsAt w m cb q) : (Instr.lookup 74 (.map (some m)) (.int .u8 2) true).run Tryz.prog w = .ok (.tuple #[.func (.func 60) #[] #[.pointer (some ⟨cb, 0, none⟩)], .bool true]) w := h.look (a := 2) (.inr rfl)
-- [ANSWERS
set_option maxRecDepth 100000 in
set_option maxHeartbeats 4000000 in
theorem prg_answers (q : Cmd) (A : Option Addr) (n c : Nat) (w : World) :
    Calls Tryz.prog 42 #[.agg #[.slice A n c, .int .u8 (q.wait : Nat), .int .u8 (q.cls : Nat), .int .u8 (q.id : Nat)]] w fun e w' => ∃ m cb, e = .returned (.map (some m)) ∧ AnsAt w' m cb q ∧ Grew w w' := by
  have hmm := @run_makeMap Tryz.prog
  go_enter Tryz.func42, Tryz.ntmps42
  go_upto_region 1 with fail
  obtain ⟨V, hV⟩ : ∃ V, w.alloc (.cells #[.slice A n c, .int .u8 (q.wait : Nat), .int .u8 (q.cls : Nat), .int .u8 (q.id : Nat)] 27) = V := ⟨_, rfl⟩
  have lp : w.heap.size < V.heap.size := by rw [← hV]; simp
  have v2 : V.cell? ⟨w.heap.size, 2, none⟩ = some (.int .u8 (q.cls : Nat)) := by rw [← hV]; simp [go_sem]
  have v3 : V.cell? ⟨w.heap.size, 3, none⟩ = some (.int .u8 (q.id : Nat)) := by rw [← hV]; simp [go_sem]
  have gV : Grew w V := by rw [← hV]; exact (Grew.refl w).alloc _
  rw [hV]
  clear hV
  have GV := Lib.hid gV
  have HC := Lib.hid (show V.cell? ⟨w.heap.size, 2, none⟩ = some (.int .u8 (q.cls : Nat)) ∧ V.cell? ⟨w.heap.size, 3, none⟩ = some (.int .u8 (q.id : Nat)) ∧ w.heap.size < V.heap.size from ⟨v2, v3, lp⟩)
  clear v2 v3 lp gV
  generalize w.heap.size = cb at *
  have hm0 : (V.alloc (.map #[] 0)).heap[V.heap.size]? = some (.map #[] 0) := heap_alloc_new V _
  obtain ⟨V2, hV2⟩ : ∃ V2, Go.ChangeMaps.setBlock (V.alloc (.map #[] 0)) V.heap.size (.map (#[].push { key := .int .u8 ((1 : Nat) : Int), val := ansV 1 cb, born := 0 }) (0 + 1)) = V2 := ⟨_, rfl⟩
  have i1 : (Instr.mapUpdate 74 (.map (some V.heap.size)) (.int .u8 1) (.func (.func 56) #[] #[.pointer (some ⟨cb, 0, none⟩)])).run Tryz.prog (V.alloc (.map #[] 0)) = .ok () V2 := by
    rw [← hV2]
    exact arun_insert (V.alloc (.map #[] 0)) V.heap.size 1 #[] 0 (ansV 1 cb) hm0 (fun e he => by simp at he)
  have hm2 : V2.heap[V.heap.size]? = some (.map #[{ key := .int .u8 ((1 : Nat) : Int), val := ansV 1 cb, born := 0 }] 1) := by rw [← hV2]; exact Go.ChangeMaps.heap_setBlock_same hm0 _
  have g2 : Grew V V2 := by
    have hg : (V.alloc (.map #[] 0)).grownBy V2 (some V.heap.size) := by
      rw [← hV2]
      exact ⟨rfl, rfl, rfl, by simp [Go.ChangeMaps.setBlock], fun i _ hi => Go.ChangeMaps.heap_setBlock_other hm0 _ (fun e => hi (by rw [e]))⟩
    exact Below.grown ((Grew.refl V).alloc _) hg ((Grew.refl V).alloc _).size (fun b hb => by simp at hb; omega)
  obtain ⟨V3, hV3⟩ : ∃ V3, Go.ChangeMaps.setBlock V2 V.heap.size (.map (#[{ key := .int .u8 ((1 : Nat) : Int), val := ansV 1 cb, born := 0 }].push { key := .int .u8 ((2 : Nat) : Int), val := ansV 2 cb, born := 1 }) (1 + 1)) = V3 := ⟨_, rfl⟩
  have i2 : (Instr.mapUpdate 74 (.map (some V.heap.size)) (.int .u8 2) (.func (.func 60) #[] #[.pointer (some ⟨cb, 0, none⟩)])).run Tryz.prog V2 = .ok () V3 := by
    rw [← hV3]
    exact arun_insert V2 V.heap.size 2 _ 1 (ansV 2 cb) hm2 (fun e he => by simp at he; subst he; exact ⟨1, rfl, by decide⟩)
  have hm3 : V3.heap[V.heap.size]? = some (.map #[{ key := .int .u8 ((1 : Nat) : Int), val := ansV 1 cb, born := 0 }, { key := .int .u8 ((2 : Nat) : Int), val := ansV 2 cb, born := 1 }] 2) := by rw [← hV3]; exact Go.ChangeMaps.heap_setBlock_same hm2 _
  have g3 : Grew V V3 := by
    have hg : V2.grownBy V3 (some V.heap.size) := by
      rw [← hV3]
      exact ⟨rfl, rfl, rfl, by simp [Go.ChangeMaps.setBlock], fun i _ hi => Go.ChangeMaps.heap_setBlock_other hm2 _ (fun e => hi (by rw [e]))⟩
    exact Below.grown g2 hg g2.size (fun b hb => by simp at hb; omega)
  have HG := Lib.hid g3
  have HM := Lib.hid hm3
  clear hm0 hm2 hm3 g2 g3 hV2 hV3
  go_wp2_with fail
  go_ret
  exact ⟨V.heap.size, cb, rfl, ⟨HM.out, Nat.lt_of_lt_of_le HC.out.2.2 HG.out.size, (HG.out.cell (p := ⟨cb, 2, none⟩) HC.out.2.2).trans HC.out.1, (HG.out.cell (p := ⟨cb, 3, none⟩) HC.out.2.2).trans HC.out.2.1⟩, GV.out.trans HG.out⟩
-- ANSWERS]
end Go.Proofs.YtcdmbnbanopioaaGreatDoor

