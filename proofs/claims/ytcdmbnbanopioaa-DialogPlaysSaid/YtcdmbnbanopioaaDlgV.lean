/-
  What a frame acknowledges: plain, and the document's answer.
  A region that calls Decode of UBX and keeps what it tells in a variable, whatever comes up first.
  The document's answer: what a frame acknowledges.
-/
import Derived.Test.YtcdmbnbanopioaaDlgT
import Derived.Test.YtcdmbnbanopioaaSrrC
import Derived.Test.YtcdmbnbanopioaaUbrC
import Derived.Test.YtcdmbnbanopioaaLocM
namespace Go.Proofs.Ytcdmbnbanopioaa
open Go.RowKit
set_option linter.unusedVariables false

/- What a frame acknowledges: plain, and the document's answer. -/
/-- What it is for (1 UBX, 2 SiRF, 0 nothing), whether it is good, class, ID. -/
def heardOf (k : Nat) (S : List Nat) : Nat × Bool × Nat × Nat :=
  if k = 2 ∧ S.length = 4 ∧ wd S 0 = 5 ∧ wd S 1 ≤ 1 then (1, decide (wd S 1 = 1), wd S 2, wd S 3)
  else if k = 3 ∧ S.length = 2 ∧ (wd S 0 = 11 ∨ wd S 0 = 12) then (2, decide (wd S 0 = 11), 0, wd S 1)
  else (0, false, 0, 0)
theorem wd_drop (S : List Nat) (k i : Nat) : wd (S.drop k) i = wd S (k + i) := by
  unfold wd
  rw [List.getD_eq_getElem?_getD, List.getD_eq_getElem?_getD, List.getElem?_drop]
theorem numLE_one (T : List Nat) (p : Nat) : numLE T p 1 = wd T p := by
  show 0 + wd T (p + 0) * 256 ^ 0 = _
  simp
theorem ubx_ack (S : List Nat) (hl : 2 ≤ S.length) (hB : Bytes S) (h5 : wd S 0 = 5) :
    (S.length = 4 ∧ wd S 1 ≤ 1 → ubxDec (wd S 0 * 256 + wd S 1) (S.drop 2) = ([(wd S 2 : Int), (wd S 3 : Int)], 0)) ∧
    (¬ (S.length = 4 ∧ wd S 1 ≤ 1) → (ubxDec (wd S 0 * 256 + wd S 1) (S.drop 2)).2 ≠ 0) := by
  have h1 := hB 1
  by_cases hs : wd S 1 ≤ 1
  · have hlay : ubxLay (wd S 0 * 256 + wd S 1) = (2, [0, 1, 1, 1]) := by
      rw [h5]
      rcases (show wd S 1 = 0 ∨ wd S 1 = 1 by omega) with e | e <;> rw [e] <;> rfl
    constructor
    · rintro ⟨h4, _⟩
      unfold ubxDec
      rw [hlay]
      simp only [List.length_drop, h4]
      rw [if_neg (by decide), if_neg (by decide)]
      have e2 := wd_drop S 2 0
      have e3 := wd_drop S 2 1
      simp only [Nat.add_zero] at e2
      show (valsTo (S.drop 2) [0, 1, 1, 1] 2, 0) = _
      simp only [valsTo, zi, getZ]
      simp [numLE_one, e2, e3]
    · intro h
      unfold ubxDec
      rw [hlay, if_neg (by decide), if_pos (by simp only [List.length_drop]; omega)]
      decide
  · have hno : ubxLay (wd S 0 * 256 + wd S 1) = (0, []) := ubx_no (by unfold isUbx; omega)
    refine ⟨fun h => absurd h.2 hs, fun _ => ?_⟩
    unfold ubxDec
    rw [hno, if_pos rfl]
    decide
theorem srf_ack (S : List Nat) (hB : Bytes S) :
    (S.length = 2 ∧ (wd S 0 = 11 ∨ wd S 0 = 12) → srfDec S = (wd S 0, [(wd S 1 : Int)], 0)) ∧
    (¬ (S.length = 2 ∧ (wd S 0 = 11 ∨ wd S 0 = 12)) → ¬ ((srfDec S).2.2 = 0 ∧ ((srfDec S).1 = 11 ∨ (srfDec S).1 = 12))) := by
  by_cases hs : wd S 0 = 11 ∨ wd S 0 = 12
  · have hlay : srfLay (wd S 0) = (2, [1, 1]) := by rcases hs with e | e <;> rw [e] <;> rfl
    constructor
    · rintro ⟨h2, _⟩
      unfold srfDec
      rw [hlay, if_neg (by omega), if_neg (by decide), if_neg (by simp only; omega)]
      show (wd S 0, bvalsTo S [1, 1] 1, 0) = _
      have e1 := turnTo_wd S 1 1 0 1 (by decide)
      simp only [bvalsTo, zi, getB, getZ]
      simp [numLE_one, e1]
    · rintro h ⟨e1, e2⟩
      unfold srfDec at e1
      rw [hlay] at e1
      split at e1
      · cases e1
      · rw [if_neg (by decide), if_pos (by simp only; omega)] at e1
        cases e1
  · refine ⟨fun h => absurd h.2 hs, ?_⟩
    rintro - ⟨e1, e2⟩
    unfold srfDec at e1 e2
    split at e1
    · cases e1
    · split at e1
      · cases e1
      · split at e1
        · cases e1
        · rename_i a b c
          rw [if_neg a, if_neg b, if_neg c] at e2
          exact hs e2
theorem three_put3 {w : World} {p : Nat} {x y z x' y' z' : Value} (h : ThreeAt w p x y z) : ThreeAt (((w.setCell ⟨p, 0, none⟩ x').setCell ⟨p, 1, none⟩ y').setCell ⟨p, 2, none⟩ z') p x' y' z' := by
  obtain ⟨l, c0, c1, c2, f0, f1, f2⟩ := h
  exact ⟨by simpa using l, by simp [go_sem, c0], by simp [go_sem, c1], by simp [go_sem, c2], by simp [go_sem, f0], by simp [go_sem, f1], by simp [go_sem, f2]⟩
/-- A row of numbers stands where a struct of bytes is written over. -/
theorem rowZ_put {w w' : World} {p : Nat} {v x : Value} {xs : List Value} {zs : List Int} {E : TypeId} (h : RowZ .i64 w v zs) (hb : w.heap[p]? = some (.cells (x :: xs).toArray E)) (hx : ∀ u ∈ (x :: xs), ∀ z : Int, u ≠ .int .i64 z) (F : Far (fun k => k = p) w w') : RowZ .i64 w' v zs := by
  obtain ⟨A, c, rfl, hc, hr⟩ := h
  refine ⟨A, c, rfl, hc, fun hn => ?_⟩
  obtain ⟨b, o, rfl, hlt, hcell⟩ := hr hn
  have hne : ¬ b = p := fun e => by
    subst e
    have h0 := hcell 0 hn
    rw [cell_of_row w b _ _ _ _ hb] at h0
    have hm := List.mem_of_getElem? (by simpa using h0)
    exact hx _ hm _ rfl
  exact ⟨b, o, rfl, Nat.lt_of_lt_of_le hlt F.size, fun i hi => (F.cell (p := ⟨b, o + i, none⟩) hlt hne).trans (hcell i hi)⟩
/- A region that calls Decode of UBX and keeps what it tells in a variable, whatever comes up first. -/
/-- What an operation leaves: a value (inl); what is told (0), the message (1), the variable (2). -/
def UCallS (a1 b1 : Int) (er : Nat) (zs : List Int) (W : World) (st : Nat) (s : Value ⊕ Nat) (L : Nat → Bool) (w : World) (v : Value) : Prop :=
  match s with
  | .inl x => v = x
  | .inr 0 => ∃ zv, v = .tuple #[.agg #[.int .u8 a1, .int .u8 b1, zv], .int .i64 (er : Nat)] ∧ RowZ .i64 w zv zs
  | .inr 1 => ∃ zv, v = .agg #[.int .u8 a1, .int .u8 b1, zv] ∧ RowZ .i64 w zv zs
  | .inr 2 => ∃ p, v = .pointer (some ⟨p, 0, none⟩) ∧ W.heap.size ≤ p ∧ p < w.heap.size ∧ (if L st = true then ∃ zv, ThreeAt w p (.int .u8 a1) (.int .u8 b1) zv ∧ RowZ .i64 w zv zs else w.heap[p]? = some (.cells #[.int .u8 0, .int .u8 0, .slice none 0 0] 79))
  | .inr _ => True
section
variable {a1 b1 : Int} {er : Nat} {zs : List Int}
theorem UCallS.also {W : World} {st : Nat} {s : Value ⊕ Nat} {L : Nat → Bool} {j : Nat} {w w' : World} {v : Value} (h : UCallS a1 b1 er zs W st s L w v) (g : Grew w w') (hj : j ≠ st) : UCallS a1 b1 er zs W st s (also L j) w' v := by
  unfold UCallS at h ⊢
  split at h
  · exact h
  · obtain ⟨zv, e, hl⟩ := h; exact ⟨zv, e, hl.grew g⟩
  · obtain ⟨zv, e, hl⟩ := h; exact ⟨zv, e, hl.grew g⟩
  · obtain ⟨p, e, h1, h2, h3⟩ := h
    refine ⟨p, e, h1, Nat.lt_of_lt_of_le h2 g.size, ?_⟩
    rw [also_ne (by omega)]
    split at h3
    · rename_i q
      rw [if_pos q]
      obtain ⟨zv, k1, k2⟩ := h3
      exact ⟨zv, k1.grew g, k2.grew g⟩
    · rename_i q
      rw [if_neg q]
      exact (Below.block g p h2).trans h3
  · trivial
theorem us_of {P : Program} {Q : Exit → Act → World → Prop} {o : Oper} {a : Act} {w W : World} {L : Nat → Bool} {ops : Array Oper} {i st : Nat} {sh : List (Value ⊕ Nat)}
    (hd : ∀ j d, L j = true → writes ops j d = true → UCallS a1 b1 er zs W st (sh.getD j (.inr 4)) L w (a.tmps[d]?.getD undef)) (g : Grew W w) (hi : i ≠ st)
    (h : o.wp P a w (fun a' w'' => ∃ v, a' = a.put o.dst v ∧ UCallS a1 b1 er zs W st (sh.getD i (.inr 4)) (also L i) w'' v ∧ Grew w w'') Q) :
    o.wp P a w (fun a' w' => ∃ v, a' = a.put o.dst v ∧ (∀ d, o.dst = some d → UCallS a1 b1 er zs W st (sh.getD i (.inr 4)) (also L i) w' v) ∧ (∀ j d, L j = true → writes ops j d = true → UCallS a1 b1 er zs W st (sh.getD j (.inr 4)) (also L i) w' (a.tmps[d]?.getD undef)) ∧ Grew W w') Q :=
  Oper.wp_mono (fun a' w' ⟨v, h1, h2, h3⟩ => ⟨v, h1, fun _ _ => h2, fun j d hl hw => (hd j d hl hw).also h3 hi, g.trans h3⟩) h
theorem us_store {Q : Exit → Act → World → Prop} {o : Oper} {a : Act} {w W : World} {L : Nat → Bool} {ops : Array Oper} {i t u : Nat} {sh : List (Value ⊕ Nat)}
    (hop : o.op = .store 79 (.tmp u) (.tmp t)) (hdst : o.dst = none)
    (hd : ∀ j d, L j = true → writes ops j d = true → UCallS a1 b1 er zs W i (sh.getD j (.inr 4)) L w (a.tmps[d]?.getD undef)) (g : Grew W w)
    (h4 : UCallS a1 b1 er zs W i (.inr 2) L w (a.tmps[u]?.getD undef)) (ht : UCallS a1 b1 er zs W i (.inr 1) L w (a.tmps[t]?.getD undef)) (hL : L i = false)
    (hone : ((List.range ops.size).all fun j => match sh.getD j (.inr 4) with | .inr 2 => writes ops j u | _ => true) = true) :
    o.wp Try.prog a w (fun a' w' => ∃ v, a' = a.put o.dst v ∧ (∀ d, o.dst = some d → UCallS a1 b1 er zs W i (sh.getD i (.inr 4)) (also L i) w' v) ∧ (∀ j d, L j = true → writes ops j d = true → UCallS a1 b1 er zs W i (sh.getD j (.inr 4)) (also L i) w' (a.tmps[d]?.getD undef)) ∧ Grew W w') Q := by
  obtain ⟨p, e4, hWp, hpl, h4⟩ := h4
  rw [hL, if_neg (by decide)] at h4
  have hblk := h4
  obtain ⟨zv, e17, hrow⟩ := ht
  have hT : ThreeAt w p (.int .u8 0) (.int .u8 0) (.slice none 0 0) := by
    refine ⟨hpl, ?_, ?_, ?_, ?_, ?_, ?_⟩
    · rw [cell_of_row w p 0 _ _ _ hblk]; rfl
    · rw [cell_of_row w p 1 _ _ _ hblk]; rfl
    · rw [cell_of_row w p 2 _ _ _ hblk]; rfl
    · simp [World.frozen?, hblk]
    · simp [World.frozen?, hblk]
    · simp [World.frozen?, hblk]
  obtain ⟨A, cap, ezv, _⟩ := id hrow
  have hF := (((Far.refl (fun x => x = p) w).setCell (p := ⟨p, 0, none⟩) rfl (.int .u8 a1)).setCell (p := ⟨p, 1, none⟩) rfl (.int .u8 b1)).setCell (p := ⟨p, 2, none⟩) rfl zv
  have hvar := three_put3 (x' := .int .u8 a1) (y' := .int .u8 b1) (z' := zv) hT
  have hg1 : Grew W (((w.setCell ⟨p, 0, none⟩ (.int .u8 a1)).setCell ⟨p, 1, none⟩ (.int .u8 b1)).setCell ⟨p, 2, none⟩ zv) := ((g.setCell hWp _).setCell hWp _).setCell hWp _
  have hex : (execOp a.eval o).run Try.prog w = .ok .skip (((w.setCell ⟨p, 0, none⟩ (.int .u8 a1)).setCell ⟨p, 1, none⟩ (.int .u8 b1)).setCell ⟨p, 2, none⟩ zv) := by
    obtain ⟨_, c0, c1, c2, f0, f1, f2⟩ := hT
    subst ezv
    simp [execOp, hop, go_sem, e4, e17, c0, c1, c2, f0, f1, f2]
  generalize ((w.setCell ⟨p, 0, none⟩ (.int .u8 a1)).setCell ⟨p, 1, none⟩ (.int .u8 b1)).setCell ⟨p, 2, none⟩ zv = w1 at *
  have hkept : ∀ zv', RowZ .i64 w zv' zs → RowZ .i64 w1 zv' zs := fun zv' hr => rowZ_put hr hblk (fun u hu z => by simp at hu; rcases hu with rfl | rfl | rfl <;> simp) hF
  unfold Oper.wp
  rw [hex]
  refine ⟨undef, by rw [hdst], fun d hd' => (by rw [hdst] at hd'; cases hd'), fun j d hl hwr => ?_, hg1⟩
  have h := hd j d hl hwr
  have h1 := fun q => List.all_eq_true.1 hone j (List.mem_range.2 q)
  have hjs : j < ops.size := by
    unfold writes at hwr
    split at hwr
    · cases hwr
    · exact (Array.getElem?_eq_some_iff.1 ‹_›).1
  replace h1 := h1 hjs
  cases hs : sh.getD j (.inr 4) with
  | inl x => rw [hs] at h; exact h
  | inr n =>
    rw [hs] at h h1
    unfold UCallS at h ⊢
    match n, h, h1 with
    | 0, h, _ => obtain ⟨zv', e, hl⟩ := h; exact ⟨zv', e, hkept _ hl⟩
    | 1, h, _ => obtain ⟨zv', e, hl⟩ := h; exact ⟨zv', e, hkept _ hl⟩
    | 2, h, h1 =>
      have : d = u := by
        unfold writes at hwr h1
        cases hq : ops[j]? with
        | none => rw [hq] at hwr; cases hwr
        | some o' =>
          rw [hq] at hwr h1
          simp only [beq_iff_eq] at hwr h1
          exact Option.some.inj (hwr.symm.trans h1)
      subst this
      refine ⟨p, e4, hWp, hvar.lt, ?_⟩
      rw [if_pos (by unfold Proofs.Ytcdmbnbanopioaa.also; simp)]
      exact ⟨_, hvar, hkept _ hrow⟩
    | _ + 3, _, _ => trivial
end
noncomputable def hubOps : Array Oper := (Try.f33.body.map (regOps 2)).getD #[]
noncomputable def hubCode : Code := (Try.f33.body.bind (regCode 2)).getD .skip
def hubSh (ab b o o2 n cap a0 b0 er : Nat) : List (Value ⊕ Nat) := [.inl (.pointer (some ⟨ab, 1, none⟩)), .inl (.slice (some ⟨b, o, none⟩) n cap), .inl (.pointer (some ⟨b, o, none⟩)), .inl (.int .u8 (a0 : Nat)), .inl (.pointer (some ⟨ab, 1, none⟩)), .inl (.slice (some ⟨b, o, none⟩) n cap), .inl (.pointer (some ⟨b, o + 1, none⟩)), .inl (.int .u8 (b0 : Nat)), .inl (.pointer (some ⟨ab, 1, none⟩)), .inl (.slice (some ⟨b, o, none⟩) n cap), .inl (.slice (some ⟨b, o2, none⟩) (n - 2) (cap - 2)), .inr 0, .inr 0, .inr 1, .inl (.int .i64 (er : Nat)), .inr 2, .inr 4, .inl (.int .i64 (er : Nat))]
set_option maxRecDepth 1000000 in
set_option maxHeartbeats 8000000 in
theorem hub_call (ab b o o2 n cap a0 b0 er : Nat) (a1 b1 : Int) (zs : List Int) (W : World) (hc : o2 = if cap = 2 then o else o + 2) (hn : 2 ≤ n) (hcap : n ≤ cap) (hM : Hid (∀ w', Grew W w' → w'.cell? ⟨ab, 1, none⟩ = some (.slice (some ⟨b, o, none⟩) n cap) ∧ w'.cell? ⟨b, o, none⟩ = some (.int .u8 (a0 : Nat)) ∧ w'.cell? ⟨b, o + 1, none⟩ = some (.int .u8 (b0 : Nat))))
    (hD : Hid (∀ w', Grew W w' → Calls Try.prog 41 #[.int .u8 (a0 : Nat), .int .u8 (b0 : Nat), .slice (some ⟨b, o2, none⟩) (n - 2) (cap - 2)] w' fun e w'' => ∃ zv, e = .returned (.tuple #[.agg #[.int .u8 a1, .int .u8 b1, zv], .int .i64 (er : Nat)]) ∧ RowZ .i64 w'' zv zs ∧ Grew w' w'')) (K0 : Act → World → Prop) (t0 t2 t3 t4 t5 t6 t7 t8 t9 t10 t11 t12 t13 t14 t15 t16 t17 t18 t19 t20 t21 t22 t23 t24 t25 t26 t27 t28 t29 t30 t31 t32 t33 t34 t35 t36 t37 t38 t39 t40 t41 t42 t43 t44 t45 t46 t47 t48 t49 t50 t51 t52 t53 t54 t55 t56 t57 t58 t59 t60 t61 t62 t63 t64 t65 t66 t67 t68 t69 t70 t71 t72 t73 t74 t75 t76 t77 t78 t79 t80 t81 t82 : Value)
    (post : ∀ (p : Nat) (zv : Value) (w' : World) (s19 s20 s21 s22 s23 s24 s25 s26 s27 s28 s29 s30 s31 s32 s33 : Value), W.heap.size ≤ p → ThreeAt w' p (.int .u8 a1) (.int .u8 b1) zv → RowZ .i64 w' zv zs → Grew W w' → K0 ⟨#[t0, .pointer (some ⟨ab, 0, none⟩), t2, t3, t4, t5, .pointer (some ⟨p, 0, none⟩), .int .i64 (er : Nat), t8, t9, t10, t11, t12, t13, t14, t15, t16, t17, t18, s19, s20, s21, s22, s23, s24, s25, s26, s27, s28, s29, s30, s31, s32, s33, t34, t35, t36, t37, t38, t39, t40, t41, t42, t43, t44, t45, t46, t47, t48, t49, t50, t51, t52, t53, t54, t55, t56, t57, t58, t59, t60, t61, t62, t63, t64, t65, t66, t67, t68, t69, t70, t71, t72, t73, t74, t75, t76, t77, t78, t79, t80, t81, t82], []⟩ w') :
    Code.wp Try.prog hubCode (Exit.then K0 fun _ _ _ => False) ⟨#[t0, .pointer (some ⟨ab, 0, none⟩), t2, t3, t4, t5, t6, t7, t8, t9, t10, t11, t12, t13, t14, t15, t16, t17, t18, t19, t20, t21, t22, t23, t24, t25, t26, t27, t28, t29, t30, t31, t32, t33, t34, t35, t36, t37, t38, t39, t40, t41, t42, t43, t44, t45, t46, t47, t48, t49, t50, t51, t52, t53, t54, t55, t56, t57, t58, t59, t60, t61, t62, t63, t64, t65, t66, t67, t68, t69, t70, t71, t72, t73, t74, t75, t76, t77, t78, t79, t80, t81, t82], []⟩ W := by
  conv => arg 2; whnf
  refine wp_region_fill (n := 83) (ops := hubOps) (by kernel_rfl) (fun L i w' v => UCallS a1 b1 er zs W 16 ((hubSh ab b o o2 n cap a0 b0 er).getD i (.inr 4)) L w' v) ?_ ?_ ?_ ?_ ?_
  case refine_1 => kernel_rfl
  case refine_2 => kernel_rfl
  case refine_3 => rfl
  case refine_5 =>
    intro L c w' hL hdef hsz ho hd g
    obtain ⟨tm, df⟩ := c
    simp only at hdef hsz ho hd
    subst hdef
    obtain ⟨p, e4, hWp, _, h4⟩ := hd 15 6 (by kernel_rfl)
    rw [if_pos (hL 16 (of_decide_eq_true (by kernel_rfl)))] at h4
    obtain ⟨zv, hvar, hrow⟩ := h4
    have e5 : tm[7]?.getD undef = .int .i64 (er : Nat) := hd 17 7 (by kernel_rfl)
    have f0 : tm[0]?.getD undef = t0 := ho 0 (by kernel_rfl)
    have f1 : tm[1]?.getD undef = .pointer (some ⟨ab, 0, none⟩) := ho 1 (by kernel_rfl)
    have f2 : tm[2]?.getD undef = t2 := ho 2 (by kernel_rfl)
    have f3 : tm[3]?.getD undef = t3 := ho 3 (by kernel_rfl)
    have f4 : tm[4]?.getD undef = t4 := ho 4 (by kernel_rfl)
    have f5 : tm[5]?.getD undef = t5 := ho 5 (by kernel_rfl)
    have f8 : tm[8]?.getD undef = t8 := ho 8 (by kernel_rfl)
    have f9 : tm[9]?.getD undef = t9 := ho 9 (by kernel_rfl)
    have f10 : tm[10]?.getD undef = t10 := ho 10 (by kernel_rfl)
    have f11 : tm[11]?.getD undef = t11 := ho 11 (by kernel_rfl)
    have f12 : tm[12]?.getD undef = t12 := ho 12 (by kernel_rfl)
    have f13 : tm[13]?.getD undef = t13 := ho 13 (by kernel_rfl)
    have f14 : tm[14]?.getD undef = t14 := ho 14 (by kernel_rfl)
    have f15 : tm[15]?.getD undef = t15 := ho 15 (by kernel_rfl)
    have f16 : tm[16]?.getD undef = t16 := ho 16 (by kernel_rfl)
    have f17 : tm[17]?.getD undef = t17 := ho 17 (by kernel_rfl)
    have f18 : tm[18]?.getD undef = t18 := ho 18 (by kernel_rfl)
    have f34 : tm[34]?.getD undef = t34 := ho 34 (by kernel_rfl)
    have f35 : tm[35]?.getD undef = t35 := ho 35 (by kernel_rfl)
    have f36 : tm[36]?.getD undef = t36 := ho 36 (by kernel_rfl)
    have f37 : tm[37]?.getD undef = t37 := ho 37 (by kernel_rfl)
    have f38 : tm[38]?.getD undef = t38 := ho 38 (by kernel_rfl)
    have f39 : tm[39]?.getD undef = t39 := ho 39 (by kernel_rfl)
    have f40 : tm[40]?.getD undef = t40 := ho 40 (by kernel_rfl)
    have f41 : tm[41]?.getD undef = t41 := ho 41 (by kernel_rfl)
    have f42 : tm[42]?.getD undef = t42 := ho 42 (by kernel_rfl)
    have f43 : tm[43]?.getD undef = t43 := ho 43 (by kernel_rfl)
    have f44 : tm[44]?.getD undef = t44 := ho 44 (by kernel_rfl)
    have f45 : tm[45]?.getD undef = t45 := ho 45 (by kernel_rfl)
    have f46 : tm[46]?.getD undef = t46 := ho 46 (by kernel_rfl)
    have f47 : tm[47]?.getD undef = t47 := ho 47 (by kernel_rfl)
    have f48 : tm[48]?.getD undef = t48 := ho 48 (by kernel_rfl)
    have f49 : tm[49]?.getD undef = t49 := ho 49 (by kernel_rfl)
    have f50 : tm[50]?.getD undef = t50 := ho 50 (by kernel_rfl)
    have f51 : tm[51]?.getD undef = t51 := ho 51 (by kernel_rfl)
    have f52 : tm[52]?.getD undef = t52 := ho 52 (by kernel_rfl)
    have f53 : tm[53]?.getD undef = t53 := ho 53 (by kernel_rfl)
    have f54 : tm[54]?.getD undef = t54 := ho 54 (by kernel_rfl)
    have f55 : tm[55]?.getD undef = t55 := ho 55 (by kernel_rfl)
    have f56 : tm[56]?.getD undef = t56 := ho 56 (by kernel_rfl)
    have f57 : tm[57]?.getD undef = t57 := ho 57 (by kernel_rfl)
    have f58 : tm[58]?.getD undef = t58 := ho 58 (by kernel_rfl)
    have f59 : tm[59]?.getD undef = t59 := ho 59 (by kernel_rfl)
    have f60 : tm[60]?.getD undef = t60 := ho 60 (by kernel_rfl)
    have f61 : tm[61]?.getD undef = t61 := ho 61 (by kernel_rfl)
    have f62 : tm[62]?.getD undef = t62 := ho 62 (by kernel_rfl)
    have f63 : tm[63]?.getD undef = t63 := ho 63 (by kernel_rfl)
    have f64 : tm[64]?.getD undef = t64 := ho 64 (by kernel_rfl)
    have f65 : tm[65]?.getD undef = t65 := ho 65 (by kernel_rfl)
    have f66 : tm[66]?.getD undef = t66 := ho 66 (by kernel_rfl)
    have f67 : tm[67]?.getD undef = t67 := ho 67 (by kernel_rfl)
    have f68 : tm[68]?.getD undef = t68 := ho 68 (by kernel_rfl)
    have f69 : tm[69]?.getD undef = t69 := ho 69 (by kernel_rfl)
    have f70 : tm[70]?.getD undef = t70 := ho 70 (by kernel_rfl)
    have f71 : tm[71]?.getD undef = t71 := ho 71 (by kernel_rfl)
    have f72 : tm[72]?.getD undef = t72 := ho 72 (by kernel_rfl)
    have f73 : tm[73]?.getD undef = t73 := ho 73 (by kernel_rfl)
    have f74 : tm[74]?.getD undef = t74 := ho 74 (by kernel_rfl)
    have f75 : tm[75]?.getD undef = t75 := ho 75 (by kernel_rfl)
    have f76 : tm[76]?.getD undef = t76 := ho 76 (by kernel_rfl)
    have f77 : tm[77]?.getD undef = t77 := ho 77 (by kernel_rfl)
    have f78 : tm[78]?.getD undef = t78 := ho 78 (by kernel_rfl)
    have f79 : tm[79]?.getD undef = t79 := ho 79 (by kernel_rfl)
    have f80 : tm[80]?.getD undef = t80 := ho 80 (by kernel_rfl)
    have f81 : tm[81]?.getD undef = t81 := ho 81 (by kernel_rfl)
    have f82 : tm[82]?.getD undef = t82 := ho 82 (by kernel_rfl)
    have e : tm = #[tm[0]?.getD undef, tm[1]?.getD undef, tm[2]?.getD undef, tm[3]?.getD undef, tm[4]?.getD undef, tm[5]?.getD undef, tm[6]?.getD undef, tm[7]?.getD undef, tm[8]?.getD undef, tm[9]?.getD undef, tm[10]?.getD undef, tm[11]?.getD undef, tm[12]?.getD undef, tm[13]?.getD undef, tm[14]?.getD undef, tm[15]?.getD undef, tm[16]?.getD undef, tm[17]?.getD undef, tm[18]?.getD undef, tm[19]?.getD undef, tm[20]?.getD undef, tm[21]?.getD undef, tm[22]?.getD undef, tm[23]?.getD undef, tm[24]?.getD undef, tm[25]?.getD undef, tm[26]?.getD undef, tm[27]?.getD undef, tm[28]?.getD undef, tm[29]?.getD undef, tm[30]?.getD undef, tm[31]?.getD undef, tm[32]?.getD undef, tm[33]?.getD undef, tm[34]?.getD undef, tm[35]?.getD undef, tm[36]?.getD undef, tm[37]?.getD undef, tm[38]?.getD undef, tm[39]?.getD undef, tm[40]?.getD undef, tm[41]?.getD undef, tm[42]?.getD undef, tm[43]?.getD undef, tm[44]?.getD undef, tm[45]?.getD undef, tm[46]?.getD undef, tm[47]?.getD undef, tm[48]?.getD undef, tm[49]?.getD undef, tm[50]?.getD undef, tm[51]?.getD undef, tm[52]?.getD undef, tm[53]?.getD undef, tm[54]?.getD undef, tm[55]?.getD undef, tm[56]?.getD undef, tm[57]?.getD undef, tm[58]?.getD undef, tm[59]?.getD undef, tm[60]?.getD undef, tm[61]?.getD undef, tm[62]?.getD undef, tm[63]?.getD undef, tm[64]?.getD undef, tm[65]?.getD undef, tm[66]?.getD undef, tm[67]?.getD undef, tm[68]?.getD undef, tm[69]?.getD undef, tm[70]?.getD undef, tm[71]?.getD undef, tm[72]?.getD undef, tm[73]?.getD undef, tm[74]?.getD undef, tm[75]?.getD undef, tm[76]?.getD undef, tm[77]?.getD undef, tm[78]?.getD undef, tm[79]?.getD undef, tm[80]?.getD undef, tm[81]?.getD undef, tm[82]?.getD undef] := (arr_getS tm undef hsz).trans (by kernel_rfl)
    rw [e4, e5, f0, f1, f2, f3, f4, f5, f8, f9, f10, f11, f12, f13, f14, f15, f16, f17, f18, f34, f35, f36, f37, f38, f39, f40, f41, f42, f43, f44, f45, f46, f47, f48, f49, f50, f51, f52, f53, f54, f55, f56, f57, f58, f59, f60, f61, f62, f63, f64, f65, f66, f67, f68, f69, f70, f71, f72, f73, f74, f75, f76, f77, f78, f79, f80, f81, f82] at e
    rw [e]
    exact post p zv w' (tm[19]?.getD undef) (tm[20]?.getD undef) (tm[21]?.getD undef) (tm[22]?.getD undef) (tm[23]?.getD undef) (tm[24]?.getD undef) (tm[25]?.getD undef) (tm[26]?.getD undef) (tm[27]?.getD undef) (tm[28]?.getD undef) (tm[29]?.getD undef) (tm[30]?.getD undef) (tm[31]?.getD undef) (tm[32]?.getD undef) (tm[33]?.getD undef) hWp hvar hrow g
  simp only [AllFrom]
  refine ⟨?_, ?_, ?_, ?_, ?_, ?_, ?_, ?_, ?_, ?_, ?_, ?_, ?_, ?_, ?_, ?_, ?_, ?_, trivial⟩
  · intro L c w' hL ho hw hc' hd g
    have e0 : c.tmps[1]?.getD undef = .pointer (some ⟨ab, 0, none⟩) := ho 1 (by kernel_rfl)
    refine us_of hd g (by decide) (each_value (v := .pointer (some ⟨ab, 1, none⟩)) ?_ rfl)
    simp [execOp, go_sem, e0]
  · intro L c w' hL ho hw hc' hd g
    have e0 : c.tmps[20]?.getD undef = .pointer (some ⟨ab, 1, none⟩) := hd 0 20 (hw 0 (by kernel_rfl)) (by kernel_rfl)
    have hx := (hM.out _ g).1
    refine us_of hd g (by decide) (each_value (v := .slice (some ⟨b, o, none⟩) n cap) ?_ rfl)
    simp [execOp, go_sem, e0, hx]
  · intro L c w' hL ho hw hc' hd g
    have e0 : c.tmps[21]?.getD undef = .slice (some ⟨b, o, none⟩) n cap := hd 1 21 (hw 1 (by kernel_rfl)) (by kernel_rfl)
    have hb : 0 < n := by omega
    have hbi : (0 : Int) < n := by omega
    refine us_of hd g (by decide) (each_value (v := .pointer (some ⟨b, o, none⟩)) ?_ rfl)
    simp [execOp, go_sem, e0, hb]
  · intro L c w' hL ho hw hc' hd g
    have e0 : c.tmps[22]?.getD undef = .pointer (some ⟨b, o, none⟩) := hd 2 22 (hw 2 (by kernel_rfl)) (by kernel_rfl)
    have hx := (hM.out _ g).2.1
    refine us_of hd g (by decide) (each_value (v := .int .u8 (a0 : Nat)) ?_ rfl)
    simp [execOp, go_sem, e0, hx]
  · intro L c w' hL ho hw hc' hd g
    have e0 : c.tmps[1]?.getD undef = .pointer (some ⟨ab, 0, none⟩) := ho 1 (by kernel_rfl)
    refine us_of hd g (by decide) (each_value (v := .pointer (some ⟨ab, 1, none⟩)) ?_ rfl)
    simp [execOp, go_sem, e0]
  · intro L c w' hL ho hw hc' hd g
    have e0 : c.tmps[24]?.getD undef = .pointer (some ⟨ab, 1, none⟩) := hd 4 24 (hw 4 (by kernel_rfl)) (by kernel_rfl)
    have hx := (hM.out _ g).1
    refine us_of hd g (by decide) (each_value (v := .slice (some ⟨b, o, none⟩) n cap) ?_ rfl)
    simp [execOp, go_sem, e0, hx]
  · intro L c w' hL ho hw hc' hd g
    have e0 : c.tmps[25]?.getD undef = .slice (some ⟨b, o, none⟩) n cap := hd 5 25 (hw 5 (by kernel_rfl)) (by kernel_rfl)
    have hb : 1 < n := by omega
    have hbi : (1 : Int) < n := by omega
    refine us_of hd g (by decide) (each_value (v := .pointer (some ⟨b, o + 1, none⟩)) ?_ rfl)
    simp [execOp, go_sem, e0, hbi]
  · intro L c w' hL ho hw hc' hd g
    have e0 : c.tmps[26]?.getD undef = .pointer (some ⟨b, o + 1, none⟩) := hd 6 26 (hw 6 (by kernel_rfl)) (by kernel_rfl)
    have hx := (hM.out _ g).2.2
    refine us_of hd g (by decide) (each_value (v := .int .u8 (b0 : Nat)) ?_ rfl)
    simp [execOp, go_sem, e0, hx]
  · intro L c w' hL ho hw hc' hd g
    have e0 : c.tmps[1]?.getD undef = .pointer (some ⟨ab, 0, none⟩) := ho 1 (by kernel_rfl)
    refine us_of hd g (by decide) (each_value (v := .pointer (some ⟨ab, 1, none⟩)) ?_ rfl)
    simp [execOp, go_sem, e0]
  · intro L c w' hL ho hw hc' hd g
    have e0 : c.tmps[28]?.getD undef = .pointer (some ⟨ab, 1, none⟩) := hd 8 28 (hw 8 (by kernel_rfl)) (by kernel_rfl)
    have hx := (hM.out _ g).1
    refine us_of hd g (by decide) (each_value (v := .slice (some ⟨b, o, none⟩) n cap) ?_ rfl)
    simp [execOp, go_sem, e0, hx]
  · intro L c w' hL ho hw hc' hd g
    have e0 : c.tmps[29]?.getD undef = .slice (some ⟨b, o, none⟩) n cap := hd 9 29 (hw 9 (by kernel_rfl)) (by kernel_rfl)
    refine us_of hd g (by decide) (each_value (v := .slice (some ⟨b, o2, none⟩) (n - 2) (cap - 2)) ?_ rfl)
    have h2 : 2 ≤ cap := by omega
    have h3 : ¬ (n : Int) < 2 := by omega
    by_cases q : cap = 2
    · rw [if_pos q] at hc
      subst q
      simp [execOp, go_sem, e0, hc, h3]
    · rw [if_neg q] at hc
      simp [execOp, go_sem, e0, hc, h3, q]
  · intro L c w' hL ho hw hc' hd g
    have e1 : c.tmps[23]?.getD undef = .int .u8 (a0 : Nat) := hd 3 23 (hw 3 (by kernel_rfl)) (by kernel_rfl)
    have e2 : c.tmps[27]?.getD undef = .int .u8 (b0 : Nat) := hd 7 27 (hw 7 (by kernel_rfl)) (by kernel_rfl)
    have e3 : c.tmps[30]?.getD undef = .slice (some ⟨b, o2, none⟩) (n - 2) (cap - 2) := hd 10 30 (hw 10 (by kernel_rfl)) (by kernel_rfl)
    exact us_of hd g (by decide) (each_call (f := 41) (args := #[.int .u8 (a0 : Nat), .int .u8 (b0 : Nat), .slice (some ⟨b, o2, none⟩) (n - 2) (cap - 2)]) (by simp [go_sem, e1, e2, e3]) ((hD.out _ g).mono (by rintro e w'' ⟨zv, rfl, hk, g'⟩; exact ⟨_, rfl, ⟨zv, rfl, hk⟩, g'⟩)))
  · intro L c w' hL ho hw hc' hd g
    obtain ⟨zv, e1, hl⟩ : ∃ zv, c.tmps[31]?.getD undef = .tuple #[.agg #[.int .u8 a1, .int .u8 b1, zv], .int .i64 (er : Nat)] ∧ RowZ .i64 w' zv zs := hd 11 31 (hw 11 (by kernel_rfl)) (by kernel_rfl)
    refine us_of hd g (by decide) (each_value (v := .tuple #[.agg #[.int .u8 a1, .int .u8 b1, zv], .int .i64 (er : Nat)]) ?_ ⟨zv, rfl, hl⟩)
    simp [execOp, go_sem, e1]
  · intro L c w' hL ho hw hc' hd g
    obtain ⟨zv, e1, hl⟩ : ∃ zv, c.tmps[19]?.getD undef = .tuple #[.agg #[.int .u8 a1, .int .u8 b1, zv], .int .i64 (er : Nat)] ∧ RowZ .i64 w' zv zs := hd 12 19 (hw 12 (by kernel_rfl)) (by kernel_rfl)
    refine us_of hd g (by decide) (each_value (v := .agg #[.int .u8 a1, .int .u8 b1, zv]) ?_ ⟨zv, rfl, hl⟩)
    simp [execOp, go_sem, e1]
  · intro L c w' hL ho hw hc' hd g
    obtain ⟨zv, e1, hl⟩ : ∃ zv, c.tmps[19]?.getD undef = .tuple #[.agg #[.int .u8 a1, .int .u8 b1, zv], .int .i64 (er : Nat)] ∧ RowZ .i64 w' zv zs := hd 12 19 (hw 12 (by kernel_rfl)) (by kernel_rfl)
    refine us_of hd g (by decide) (each_value (v := .int .i64 (er : Nat)) ?_ rfl)
    simp [execOp, go_sem, e1]
  · intro L c w' hL ho hw hc' hd g
    have hn : L 16 = false := by
      cases q : L 16 with
      | false => rfl
      | true => have := hc' 16 15 q (by kernel_rfl); rw [hL] at this; cases this
    refine us_of hd g (by decide) (each_made (v := .pointer (some ⟨w'.heap.size, 0, none⟩)) (w1 := w'.alloc (.cells #[.int .u8 0, .int .u8 0, .slice none 0 0] 79)) ?_ ((Grew.refl _).alloc _) ⟨_, rfl, g.size, by simp, ?_⟩)
    · simp [execOp, go_sem]
    · rw [also_ne (by decide), hn, if_neg (by decide)]
      exact heap_alloc_new _ _
  · intro L c w' hL ho hw hc' hd g
    exact us_store (ops := hubOps) (sh := (hubSh ab b o o2 n cap a0 b0 er)) (u := 6) (t := 32) rfl rfl hd g (hd 15 6 (hw 15 (by kernel_rfl)) (by kernel_rfl)) (hd 13 32 (hw 13 (by kernel_rfl)) (by kernel_rfl)) hL (by kernel_rfl)
  · intro L c w' hL ho hw hc' hd g
    have e0 : c.tmps[33]?.getD undef = .int .i64 (er : Nat) := hd 14 33 (hw 14 (by kernel_rfl)) (by kernel_rfl)
    refine us_of hd g (by decide) (each_value (v := .int .i64 (er : Nat)) ?_ rfl)
    simp [execOp, go_sem, e0]
/- The document's answer: what a frame acknowledges. -/
theorem heard_no {k : Nat} {S : List Nat} (h2 : ¬ (k = 2 ∧ S.length = 4 ∧ wd S 0 = 5 ∧ wd S 1 ≤ 1)) (h3 : ¬ (k = 3 ∧ S.length = 2 ∧ (wd S 0 = 11 ∨ wd S 0 = 12))) : heardOf k S = (0, false, 0, 0) := by
  unfold heardOf
  rw [if_neg h2, if_neg h3]
def HeardT (r : Nat × Bool × Nat × Nat) (w : World) (e : Ending) (w' : World) : Prop :=
  e = .returned (.tuple #[.int .u8 (r.1 : Nat), .bool r.2.1, .int .u8 (r.2.2.1 : Nat), .int .u8 (r.2.2.2 : Nat)]) ∧ Grew w w'
-- [HEARD
set_option maxRecDepth 100000 in
set_option maxHeartbeats 4000000 in
theorem ref14_heard (k : Nat) (v : Value) (S : List Nat) (w : World) (hk : k < 256) (hr : Row .u8 w v S) (hB : Bytes S) (hl : S.length ≤ 100000) :
    Calls Try.prog 33 #[.agg #[.int .u8 (k : Nat), v]] w (HeardT (heardOf k S) w) := by
  have HR := Lib.hid hr
  obtain ⟨A, c, rfl, hc, hrow⟩ := hr
  have hr1 := Lib.hid hrow
  clear hrow
  by_cases hk2 : k = 2
  · subst hk2
    by_cases hl2 : 2 ≤ S.length
    · obtain ⟨b, o, rfl, hb, hcell⟩ := hr1.out (by omega)
      have x0 := hcell 0 (by omega)
      have x1 := hcell 1 (by omega)
      rw [Nat.add_zero] at x0
      have hl2' : (2 : Int) ≤ S.length := by omega
      clear hr1 hcell
      go_enter Try.func33, Try.ntmps33
      go_upto_region 1 with fail
      obtain ⟨W, hW, g0, T0⟩ := twoC_new w (.int .u8 2) (.slice (some ⟨b, o, none⟩) S.length c) 37
      rw [hW]
      clear hW
      have T1 := Lib.hid T0
      obtain ⟨_, s0, s1, _, _⟩ := T0
      go_upto_region 2 with fail
      have hB2 : Bytes (S.drop 2) := fun i => by rw [wd_drop]; exact hB _
      have HCUT := ((HR.out.grew g0).cut 2 hl2)
      obtain ⟨o2, ho2⟩ : ∃ o2, o2 = if c = 2 then o else o + 2 := ⟨_, rfl⟩
      have ecut : (if c = 2 then (⟨b, o, none⟩ : Addr) else ⟨b, o + 2, none⟩) = ⟨b, o2, none⟩ := by rw [ho2]; split <;> rfl
      rw [ecut] at HCUT
      have HDEC := fun w' (G : Grew W w') => ref12_Decode (wd S 0) (wd S 1) _ (S.drop 2) w' (hB 0) (hB 1) (HCUT.grew G) hB2 (by rw [List.length_drop]; omega)
      have y0 := (g0.cell (p := ⟨b, o, none⟩) hb).trans x0
      have y1 := (g0.cell (p := ⟨b, o + 1, none⟩) hb).trans x1
      have hbW := Nat.lt_of_lt_of_le hb g0.size
      have K := Lib.hid (fun w' (G : Grew W w') => (⟨(T1.out.grew G).c1, (G.cell (p := ⟨b, o, none⟩) hbW).trans y0, (G.cell (p := ⟨b, o + 1, none⟩) hbW).trans y1⟩ : w'.cell? ⟨w.heap.size, 1, none⟩ = some (.slice (some ⟨b, o, none⟩) S.length c) ∧ w'.cell? ⟨b, o, none⟩ = some (.int .u8 (wd S 0 : Nat)) ∧ w'.cell? ⟨b, o + 1, none⟩ = some (.int .u8 (wd S 1 : Nat))))
      have hack := Lib.hid (ubx_ack S hl2 hB)
      have hB2' := hB 2
      have hB3' := hB 3
      have herr : (ubxDec (wd S 0 * 256 + wd S 1) (S.drop 2)).2 = 0 ∨ 0 < (ubxDec (wd S 0 * 256 + wd S 1) (S.drop 2)).2 := by omega
      unfold DecT at HDEC
      generalize hrr : ubxDec (wd S 0 * 256 + wd S 1) (S.drop 2) = rr at *
      obtain ⟨zs, er⟩ := rr
      simp only at HDEC herr
      have HD : Hid (∀ w', Grew W w' → Calls Try.prog 41 #[.int .u8 (wd S 0 : Nat), .int .u8 (wd S 1 : Nat), .slice (some ⟨b, o2, none⟩) (S.length - 2) (c - 2)] w' fun e w'' => ∃ zv, e = .returned (.tuple #[.agg #[.int .u8 ((if er = 0 then wd S 0 else 0 : Nat) : Int), .int .u8 ((if er = 0 then wd S 1 else 0 : Nat) : Int), zv], .int .i64 (er : Nat)]) ∧ RowZ .i64 w'' zv zs ∧ Grew w' w'') := Lib.hid (fun w' G => (HDEC w' G).mono (fun e w'' ⟨zv, e1, h1, _, h2⟩ => ⟨zv, e1, h1, h2⟩))
      clear HCUT hB2 x0 x1 s0 HR HDEC ecut
      go_cut [6, 7] (fun s t wx => ∃ (p : Nat) (zv : Value), s = .pointer (some ⟨p, 0, none⟩) ∧ t = .int .i64 (er : Nat) ∧ Hid (ThreeAt wx p (.int .u8 ((if er = 0 then wd S 0 else 0 : Nat) : Int)) (.int .u8 ((if er = 0 then wd S 1 else 0 : Nat) : Int)) zv) ∧ Hid (RowZ .i64 wx zv zs) ∧ Hid (Grew W wx))
      case first =>
        refine wp_thenS (hub_call w.heap.size b o o2 S.length c (wd S 0) (wd S 1) er _ _ zs W ho2 hl2 hc K HD _ _ _ _ _ _ _ _ _ _ _ _ _ _ _ _ _ _ _ _ _ _ _ _ _ _ _ _ _ _ _ _ _ _ _ _ _ _ _ _ _ _ _ _ _ _ _ _ _ _ _ _ _ _ _ _ _ _ _ _ _ _ _ _ _ _ _ _ _ _ _ _ _ _ _ _ _ _ _ _ _ _ _ (fun p zv wx s19 s20 s21 s22 s23 s24 s25 s26 s27 s28 s29 s30 s31 s32 s33 hWp hvar hrow hg => ?_))
        go_wp2_with fail
        go_meet
        case rel => exact ⟨p, zv, rfl, rfl, Lib.hid hvar, Lib.hid hrow, Lib.hid hg⟩
      case rest =>
        obtain ⟨p, zv, rfl, rfl, hvar, hrow, hg⟩ := hcut
        obtain ⟨wX, hwX⟩ : ∃ x, x = wc := ⟨_, rfl⟩
        subst hwX
        have GG := Lib.hid (g0.trans hg.out)
        have T3 := T1.out.grew hg.out
        obtain ⟨_, u0, u1, _, _⟩ := T3
        obtain ⟨lp, v0, v1, v2, _, _, _⟩ := hvar.out
        by_cases her : er = 0
        · subst her
          by_cases h5 : wd S 0 = 5
          · by_cases h4 : S.length = 4 ∧ wd S 1 ≤ 1
            · obtain ⟨q1, _⟩ := hack.out h5
              have q2 := q1 h4
              simp only [Prod.mk.injEq, and_true] at q2
              subst q2
              obtain ⟨ZA, zc, rfl, hzc, hzr⟩ := hrow.out
              obtain ⟨zb, zo, rfl, hzb, hzx⟩ := hzr (by simp)
              have z0 := hzx 0 (by simp)
              have z1 := hzx 1 (by simp)
              have hyes : Hid (heardOf 2 S = (1, decide (wd S 1 = 1), wd S 2, wd S 3)) := Lib.hid (by unfold heardOf; rw [if_pos ⟨rfl, h4.1, h5, h4.2⟩])
              simp only [zi, List.getD_cons_zero, List.getD_cons_succ, Nat.add_zero, List.length_cons, List.length_nil, Nat.zero_add] at z0 z1 hzc v2
              rw [if_pos rfl] at v0 v1
              have m2 : IntKind.u8.wrap (wd S 2 : Int) = (wd S 2 : Int) := IntWalk.u8_in _ (by omega)
              have m3 : IntKind.u8.wrap (wd S 3 : Int) = (wd S 3 : Int) := IntWalk.u8_in _ (by omega)
              have m4 : (wd S 2 : Int) % 256 = (wd S 2 : Int) := by omega
              have m5 : (wd S 3 : Int) % 256 = (wd S 3 : Int) := by omega
              have hd1 : Hid (((wd S 1 : Int) == 1) = decide (wd S 1 = 1)) := Lib.hid (by rw [Bool.eq_iff_iff, beq_iff_eq, decide_eq_true_iff]; omega)
              rw [h5] at v0
              clear hzr hzx hrow hvar hack K HD
              go_wp2_with fail
              go_quiet (fail)
              have GQ := Lib.hid (GG.out.drewN nq)
              go_wp2_with fail
              refine bodyPost_ret (by simp [results, Try.results33, go_sem]; try rfl) rfl ?_
              rw [hyes.out]
              exact ⟨by rw [hd1.out]; rfl, GQ.out⟩
            · exact absurd rfl ((hack.out h5).2 h4)
          · have hno := Lib.hid (heard_no (k := 2) (S := S) (fun q => h5 q.2.2.1) (fun q => absurd q.1 (by decide)))
            have n5 : ¬ (wd S 0 : Int) = 5 := by omega
            go_wp2_with fail
            refine bodyPost_ret (by simp [results, Try.results33, go_sem]; try rfl) rfl ?_
            rw [hno.out]
            exact ⟨rfl, GG.out⟩
        · have ner : ¬ (er : Int) = 0 := by omega
          have hno := Lib.hid (heard_no (k := 2) (S := S) (fun q => by have := (hack.out q.2.2.1).1 ⟨q.2.1, q.2.2.2⟩; simp only [Prod.mk.injEq] at this; exact her this.2) (fun q => absurd q.1 (by decide)))
          go_wp2_with fail
          refine bodyPost_ret (by simp [results, Try.results33, go_sem]; try rfl) rfl ?_
          rw [hno.out]
          exact ⟨rfl, GG.out⟩
    · have n2 : ¬ (2 : Int) ≤ S.length := by omega
      have hno := Lib.hid (heard_no (k := 2) (S := S) (fun q => hl2 (by omega)) (fun q => absurd q.1 (by decide)))
      go_enter Try.func33, Try.ntmps33
      go_upto_region 1 with fail
      obtain ⟨W, hW, g0, T0⟩ := twoC_new w (.int .u8 2) (.slice A S.length c) 37
      rw [hW]
      clear hW
      obtain ⟨_, s0, s1, _, _⟩ := T0
      go_wp2_with fail
      refine bodyPost_ret (by simp [results, Try.results33, go_sem]; try rfl) rfl ?_
      rw [hno.out]
      exact ⟨rfl, g0⟩
  · have nk2 : ¬ (k : Int) = 2 := by omega
    by_cases hk3 : k = 3
    · subst hk3
      have hack := Lib.hid (srf_ack S hB)
      have HDEC := fun w' (G : Grew w w') => Lib.hid (ref13_Decode _ S w' (HR.out.grew G) hB hl)
      have hSB := hB 1
      unfold DecS at HDEC
      have hmm : (srfDec S).1 < 256 := by
        unfold srfDec
        split
        · decide
        · split
          · decide
          · split
            · decide
            · exact hB 0
      generalize hrr : srfDec S = rr at *
      obtain ⟨m, zs, er⟩ := rr
      simp only at HDEC hmm
      go_enter Try.func33, Try.ntmps33
      go_upto_region 1 with fail
      obtain ⟨W, hW, g0, T0⟩ := twoC_new w (.int .u8 3) (.slice A S.length c) 37
      rw [hW]
      clear hW
      have T1 := Lib.hid T0
      obtain ⟨_, s0, s1, _, _⟩ := T0
      have HD := HDEC _ g0
      clear HDEC
      go_upto_region 7 with (go_at_call 42; refine HD.out.mono ?_; rintro e w4 ⟨zv, rfl, hrow, _, g4⟩; have HROW := Lib.hid hrow; obtain ⟨ZA, zc, rfl, hzc⟩ := hrow.form; clear hrow)
      obtain ⟨V, hV, gV, TV⟩ := twoC_new w4 (.int .u8 (m : Nat)) (.slice ZA zs.length zc) 85
      rw [hV]
      clear hV
      have GG := Lib.hid ((g0.trans g4).trans gV)
      obtain ⟨lv, v0, v1, _, _⟩ := TV
      obtain ⟨_, s0, s1, _, _⟩ := T1.out.grew (g4.trans gV)
      by_cases hy : S.length = 2 ∧ (wd S 0 = 11 ∨ wd S 0 = 12)
      · have q2 := hack.out.1 hy
        simp only [Prod.mk.injEq] at q2
        obtain ⟨rfl, rfl, rfl⟩ := q2
        obtain ⟨ZA', zc', ez, _, hzr⟩ := HROW.out.grew gV
        cases ez
        obtain ⟨zb, zo, rfl, hzb, hzx⟩ := hzr (by simp)
        have z0 := hzx 0 (by simp)
        have hyes : Hid (heardOf 3 S = (2, decide (wd S 0 = 11), 0, wd S 1)) := Lib.hid (by unfold heardOf; rw [if_neg (by omega), if_pos ⟨rfl, hy⟩])
        simp only [zi, List.getD_cons_zero, Nat.add_zero, List.length_cons, List.length_nil, Nat.zero_add] at z0 v1 hzc
        have m2 : IntKind.u8.wrap (wd S 1 : Int) = (wd S 1 : Int) := IntWalk.u8_in _ (by omega)
        have m4 : (wd S 1 : Int) % 256 = (wd S 1 : Int) := by omega
        clear hzr hzx hack HD
        rcases hy.2 with q | q
        · rw [q] at v0 hyes
          clear hy
          go_wp2_with fail
          go_quiet (fail)
          have GQ := Lib.hid (GG.out.drewN nq)
          go_wp2_with fail
          refine bodyPost_ret (by simp [results, Try.results33, go_sem]; try rfl) rfl ?_
          rw [hyes.out]
          exact ⟨rfl, GQ.out⟩
        · rw [q] at v0 hyes
          clear hy
          go_wp2_with fail
          go_quiet (fail)
          have GQ := Lib.hid (GG.out.drewN nq)
          go_wp2_with fail
          refine bodyPost_ret (by simp [results, Try.results33, go_sem]; try rfl) rfl ?_
          rw [hyes.out]
          exact ⟨rfl, GQ.out⟩
      · have hno := Lib.hid (heard_no (k := 3) (S := S) (fun q => absurd q.1 (by decide)) (fun q => hy q.2))
        have hn2 := hack.out.2 hy
        clear hack HD
        by_cases her : er = 0
        · subst her
          have n11 : ((m : Int) == 11) = false := by rw [beq_eq_false_iff_ne]; omega
          have n12 : ((m : Int) == 12) = false := by rw [beq_eq_false_iff_ne]; omega
          clear hn2
          go_wp2_with fail
          refine bodyPost_ret (by simp [results, Try.results33, go_sem]; try rfl) rfl ?_
          rw [hno.out]
          exact ⟨rfl, GG.out⟩
        · have ner : ¬ (er : Int) = 0 := by omega
          clear hn2
          go_wp2_with fail
          refine bodyPost_ret (by simp [results, Try.results33, go_sem]; try rfl) rfl ?_
          rw [hno.out]
          exact ⟨rfl, GG.out⟩
    · have nk3 : ¬ (k : Int) = 3 := by omega
      have hno := Lib.hid (heard_no (k := k) (S := S) (fun q => hk2 q.1) (fun q => hk3 q.1))
      go_enter Try.func33, Try.ntmps33
      go_upto_region 1 with fail
      obtain ⟨W, hW, g0, T0⟩ := twoC_new w (.int .u8 (k : Nat)) (.slice A S.length c) 37
      rw [hW]
      clear hW
      obtain ⟨_, s0, s1, _, _⟩ := T0
      go_wp2_with fail
      refine bodyPost_ret (by simp [results, Try.results33, go_sem]; try rfl) rfl ?_
      rw [hno.out]
      exact ⟨rfl, g0⟩
-- HEARD]
end Go.Proofs.Ytcdmbnbanopioaa
