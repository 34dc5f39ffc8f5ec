/-
  The program's UBX messages: a payload written.
-/
import Derived.Test.YtaaphnlkfmaeeaaUbpD
namespace Go.Proofs.Ytaaphnlkfmaeeaa
open Go.RowKit
set_option linter.unusedVariables false

/-- Whole numbers of 64 bits. -/
def In64 (zs : List Int) : Prop := ∀ i, -9223372036854775808 ≤ zi zs i ∧ zi zs i ≤ 9223372036854775807
/-- What writing a message tells. -/
def PayT (r : List Nat × Nat) (w : World) (e : Ending) (w' : World) : Prop :=
  ∃ v, e = .returned (.tuple #[v, .int .i64 (r.2 : Nat)]) ∧ Row .u8 w' v r.1 ∧ (0 < r.1.length → ∀ x, v.ownBlock = some x → w.heap.size ≤ x) ∧ Grew w w'
theorem payT_no {er : Nat} {w w' : World} (g : Grew w w') : PayT ([], er) w (.returned (.tuple #[.slice none 0 0, .int .i64 (er : Nat)])) w' :=
  ⟨_, rfl, Row.nil _ _, (fun q => absurd q (by simp)), g⟩
theorem fits_read {l zs : List Int} {n k p m : Nat} {neg : Bool} (hok : LayOk l n) (hk : 2 * k + 1 < l.length) (e1 : zi l (2 * k) = (p : Nat)) (e2 : zi l (2 * k + 1) = (if neg then -(m : Int) else (m : Int))) :
    getZ (payTo l zs n (k + 1)) p (if neg then -(m : Int) else (m : Int)) = zi zs k ↔ fitsZ (zi zs k) (zi l (2 * k + 1)) = true := by
  have h := payTo_num hok k (k + 1) (by omega) (by omega) (zs := zs)
  rw [e1, e2] at h
  rw [e2, getZ_sign]
  exact sign_mod _ _ _ (by have := (hok.size k hk).1; rw [e2] at this; exact this) (by simpa using h)
def regIn (n : Nat) : Code → Array Oper
  | .region k ops _ => if k = n then ops else #[]
  | .seq a b => regIn n a ++ regIn n b
  | .block _ c => regIn n c
  | .loop c => regIn n c
  | .scope c => regIn n c
  | .cond _ a b => regIn n a ++ regIn n b
  | _ => #[]
theorem arr_get {α : Type} (t : Array α) (d : α) {n : Nat} (h : t.size = n) : t = ((List.range n).map fun k => t[k]?.getD d).toArray := by
  refine Array.ext (by simpa using h) fun i h1 h2 => ?_
  simp [h1]
def regOf (n : Nat) : Code → Option Code
  | .region k ops d => if k = n then some (.region k ops d) else none
  | .seq a b => match regOf n a with
    | some c => some c
    | none => regOf n b
  | .block _ c => regOf n c
  | .loop c => regOf n c
  | .scope c => regOf n c
  | .cond _ a b => match regOf n a with
    | some c => some c
    | none => regOf n b
  | _ => none
noncomputable def payOps : Array Oper := (Try.f10.body.map (regIn 1)).getD #[]
noncomputable def payCode : Code := (Try.f10.body.bind (regOf 1)).getD .skip
theorem writes_one {ops : Array Oper} {j d d' : Nat} (h : writes ops j d = true) (h' : writes ops j d' = true) : d = d' := by
  unfold writes at h h'
  cases hq : ops[j]? with
  | none => rw [hq] at h; cases h
  | some p =>
    rw [hq] at h h'
    simp only [beq_iff_eq] at h h'
    exact Option.some.inj (h.symm.trans h')
/-- What the operations of the look-up leave. -/
def LookS (c : Nat) (W : World) (ab a b : Nat) (L : Nat → Bool) (i : Nat) (w : World) (v : Value) : Prop :=
  match i with
  | 0 => L 6 = false → KindsAt w v
  | 1 => v = .pointer (some ⟨ab, 0, none⟩)
  | 2 => v = .int .u8 (a : Nat)
  | 3 => v = .pointer (some ⟨ab, 1, none⟩)
  | 4 => v = .int .u8 (b : Nat)
  | 5 => v = keyV a b
  | 6 => ∃ lv, v = .tuple #[lv, .bool (decide ((ubxLay c).1 ≠ 0))] ∧ LayH w lv c
  | 7 => ∃ lv, v = .tuple #[lv, .bool (decide ((ubxLay c).1 ≠ 0))] ∧ LayH w lv c
  | 8 => LayH w v c
  | 9 => v = .bool (decide ((ubxLay c).1 ≠ 0))
  | 10 => ∃ p, v = .pointer (some ⟨p, 0, none⟩) ∧ W.heap.size ≤ p ∧ p < w.heap.size ∧ (if L 11 = true then ∃ x y, LayH w (.agg #[x, y]) c ∧ LayVar w p x y else ∃ x y, w.heap[p]? = some (.cells #[x, y] 42))
  | 12 => v = .bool (decide ((ubxLay c).1 ≠ 0))
  | _ => True
theorem layH_grew {w w' : World} {v : Value} {c : Nat} (h : LayH w v c) (g : Grew w w') : LayH w' v c := h.kept fun b cs hb => (Below.block g b (Array.getElem?_eq_some_iff.1 hb).1).trans hb
theorem LookS.also {c : Nat} {W : World} {ab a b : Nat} {L : Nat → Bool} {i j : Nat} {w w' : World} {v : Value} (h : LookS c W ab a b L i w v) (g : Grew w w') (hj : j ≠ 11) : LookS c W ab a b (also L j) i w' v := by
  unfold LookS at h ⊢
  split at h
  · intro hf
    have : L 6 = false := by unfold Proofs.Ytaaphnlkfmaeeaa.also at hf; cases q : L 6 with | false => rfl | true => rw [q, Bool.or_true] at hf; cases hf
    exact (h this).grew g
  · exact h
  · exact h
  · exact h
  · exact h
  · exact h
  · obtain ⟨lv, e, hl⟩ := h; exact ⟨lv, e, layH_grew hl g⟩
  · obtain ⟨lv, e, hl⟩ := h; exact ⟨lv, e, layH_grew hl g⟩
  · exact layH_grew h g
  · exact h
  · obtain ⟨p, e, h1, h2, h3⟩ := h
    refine ⟨p, e, h1, Nat.lt_of_lt_of_le h2 g.size, ?_⟩
    rw [also_ne (by omega)]
    split at h3
    · rename_i q
      rw [if_pos q]
      obtain ⟨x, y, k1, k2⟩ := h3
      exact ⟨x, y, layH_grew k1 g, k2.grew g⟩
    · rename_i q
      rw [if_neg q]
      obtain ⟨x, y, k1⟩ := h3
      exact ⟨x, y, (Below.block g p h2).trans k1⟩
  · exact h
  · trivial
section
variable {P : Program} {Q : Exit → Act → World → Prop} {o : Oper} {a : Act} {w W : World} {L : Nat → Bool} {ops : Array Oper} {i c ab x y : Nat}
theorem ls_of (hd : ∀ j d, L j = true → writes ops j d = true → LookS c W ab x y L j w (a.tmps[d]?.getD undef)) (g : Grew W w) (hi : i ≠ 11)
    (h : o.wp P a w (fun a' w'' => ∃ v, a' = a.put o.dst v ∧ LookS c W ab x y (also L i) i w'' v ∧ Grew w w'') Q) :
    o.wp P a w (fun a' w' => ∃ v, a' = a.put o.dst v ∧ (∀ d, o.dst = some d → LookS c W ab x y (also L i) i w' v) ∧ (∀ j d, L j = true → writes ops j d = true → LookS c W ab x y (also L i) j w' (a.tmps[d]?.getD undef)) ∧ Grew W w') Q :=
  Oper.wp_mono (fun a' w' ⟨v, h1, h2, h3⟩ => ⟨v, h1, fun _ _ => h2, fun j d hl hw => (hd j d hl hw).also h3 hi, g.trans h3⟩) h
end
theorem wp_thenU {P : Program} {c : Code} {K : Act → World → Prop} {Q : Exit → Act → World → Prop} {a : Act} {w : World} (h : c.wp P (Exit.then K fun _ _ _ => False) a w) : c.wp P (Exit.then K Q) a w :=
  wp_mono h (fun e a' w' q => by cases e <;> first | exact q | exact q.elim)
-- [LOOK
set_option maxRecDepth 1000000 in
set_option maxHeartbeats 8000000 in
theorem pay_look (a b ab : Nat) (sv : Value) (W : World) (T : Hid (ThreeAt W ab (.int .u8 (a : Nat)) (.int .u8 (b : Nat)) sv)) (ha : a < 256) (hb : b < 256) (K0 : Act → World → Prop) (t0 : Value)
    (post : ∀ (p : Nat) (x y : Value) (w' : World) (t9 t10 t11 t12 t13 t14 t15 t16 t17 t18 : Value), W.heap.size ≤ p → LayH w' (.agg #[x, y]) (a * 256 + b) → LayVar w' p x y → Grew W w' → K0 ⟨#[t0, .pointer (some ⟨ab, 0, none⟩), .slice none 0 0, .int .i64 0, .pointer (some ⟨p, 0, none⟩), .bool (decide ((ubxLay (a * 256 + b)).1 ≠ 0)), undef, undef, undef, t9, t10, t11, t12, t13, t14, t15, t16, t17, t18, undef, undef, undef, undef, undef, undef, undef, undef, undef, undef, undef, undef, undef, undef, undef, undef, undef, undef, undef, undef, undef, undef, undef, undef, undef, undef, undef, undef, undef, undef, undef, undef, undef, undef, undef, undef, undef, undef, undef], []⟩ w') :
    Code.wp Try.prog payCode (Exit.then K0 fun _ _ _ => False) ⟨#[t0, .pointer (some ⟨ab, 0, none⟩), .slice none 0 0, .int .i64 0, undef, undef, undef, undef, undef, undef, undef, undef, undef, undef, undef, undef, undef, undef, undef, undef, undef, undef, undef, undef, undef, undef, undef, undef, undef, undef, undef, undef, undef, undef, undef, undef, undef, undef, undef, undef, undef, undef, undef, undef, undef, undef, undef, undef, undef, undef, undef, undef, undef, undef, undef, undef, undef, undef], []⟩ W := by
  conv => arg 2; whnf
  refine wp_region_fill (n := 58) (ops := payOps) (by kernel_rfl) (fun L i w' v => LookS (a * 256 + b) W ab a b L i w' v) ?_ ?_ ?_ ?_ ?_
  case refine_1 => kernel_rfl
  case refine_2 => kernel_rfl
  case refine_3 => rfl
  case refine_5 =>
    intro L c w' hL hdef hsz ho hd g
    obtain ⟨tm, df⟩ := c
    simp only at hdef hsz ho hd
    subst hdef
    obtain ⟨p, e4, hWp, _, h4⟩ := hd 10 4 (by kernel_rfl)
    rw [if_pos (hL 11 (of_decide_eq_true (by kernel_rfl)))] at h4
    obtain ⟨x, y, hlay, hvar⟩ := h4
    have e5 : tm[5]?.getD undef = .bool (decide ((ubxLay (a * 256 + b)).1 ≠ 0)) := hd 12 5 (by kernel_rfl)
    have f0 : tm[0]?.getD undef = t0 := ho 0 (by kernel_rfl)
    have f1 : tm[1]?.getD undef = .pointer (some ⟨ab, 0, none⟩) := ho 1 (by kernel_rfl)
    have f2 : tm[2]?.getD undef = .slice none 0 0 := ho 2 (by kernel_rfl)
    have f3 : tm[3]?.getD undef = .int .i64 0 := ho 3 (by kernel_rfl)
    have f6 : tm[6]?.getD undef = undef := ho 6 (by kernel_rfl)
    have f7 : tm[7]?.getD undef = undef := ho 7 (by kernel_rfl)
    have f8 : tm[8]?.getD undef = undef := ho 8 (by kernel_rfl)
    have f19 : tm[19]?.getD undef = undef := ho 19 (by kernel_rfl)
    have f20 : tm[20]?.getD undef = undef := ho 20 (by kernel_rfl)
    have f21 : tm[21]?.getD undef = undef := ho 21 (by kernel_rfl)
    have f22 : tm[22]?.getD undef = undef := ho 22 (by kernel_rfl)
    have f23 : tm[23]?.getD undef = undef := ho 23 (by kernel_rfl)
    have f24 : tm[24]?.getD undef = undef := ho 24 (by kernel_rfl)
    have f25 : tm[25]?.getD undef = undef := ho 25 (by kernel_rfl)
    have f26 : tm[26]?.getD undef = undef := ho 26 (by kernel_rfl)
    have f27 : tm[27]?.getD undef = undef := ho 27 (by kernel_rfl)
    have f28 : tm[28]?.getD undef = undef := ho 28 (by kernel_rfl)
    have f29 : tm[29]?.getD undef = undef := ho 29 (by kernel_rfl)
    have f30 : tm[30]?.getD undef = undef := ho 30 (by kernel_rfl)
    have f31 : tm[31]?.getD undef = undef := ho 31 (by kernel_rfl)
    have f32 : tm[32]?.getD undef = undef := ho 32 (by kernel_rfl)
    have f33 : tm[33]?.getD undef = undef := ho 33 (by kernel_rfl)
    have f34 : tm[34]?.getD undef = undef := ho 34 (by kernel_rfl)
    have f35 : tm[35]?.getD undef = undef := ho 35 (by kernel_rfl)
    have f36 : tm[36]?.getD undef = undef := ho 36 (by kernel_rfl)
    have f37 : tm[37]?.getD undef = undef := ho 37 (by kernel_rfl)
    have f38 : tm[38]?.getD undef = undef := ho 38 (by kernel_rfl)
    have f39 : tm[39]?.getD undef = undef := ho 39 (by kernel_rfl)
    have f40 : tm[40]?.getD undef = undef := ho 40 (by kernel_rfl)
    have f41 : tm[41]?.getD undef = undef := ho 41 (by kernel_rfl)
    have f42 : tm[42]?.getD undef = undef := ho 42 (by kernel_rfl)
    have f43 : tm[43]?.getD undef = undef := ho 43 (by kernel_rfl)
    have f44 : tm[44]?.getD undef = undef := ho 44 (by kernel_rfl)
    have f45 : tm[45]?.getD undef = undef := ho 45 (by kernel_rfl)
    have f46 : tm[46]?.getD undef = undef := ho 46 (by kernel_rfl)
    have f47 : tm[47]?.getD undef = undef := ho 47 (by kernel_rfl)
    have f48 : tm[48]?.getD undef = undef := ho 48 (by kernel_rfl)
    have f49 : tm[49]?.getD undef = undef := ho 49 (by kernel_rfl)
    have f50 : tm[50]?.getD undef = undef := ho 50 (by kernel_rfl)
    have f51 : tm[51]?.getD undef = undef := ho 51 (by kernel_rfl)
    have f52 : tm[52]?.getD undef = undef := ho 52 (by kernel_rfl)
    have f53 : tm[53]?.getD undef = undef := ho 53 (by kernel_rfl)
    have f54 : tm[54]?.getD undef = undef := ho 54 (by kernel_rfl)
    have f55 : tm[55]?.getD undef = undef := ho 55 (by kernel_rfl)
    have f56 : tm[56]?.getD undef = undef := ho 56 (by kernel_rfl)
    have f57 : tm[57]?.getD undef = undef := ho 57 (by kernel_rfl)
    have e : tm = #[tm[0]?.getD undef, tm[1]?.getD undef, tm[2]?.getD undef, tm[3]?.getD undef, tm[4]?.getD undef, tm[5]?.getD undef, tm[6]?.getD undef, tm[7]?.getD undef, tm[8]?.getD undef, tm[9]?.getD undef, tm[10]?.getD undef, tm[11]?.getD undef, tm[12]?.getD undef, tm[13]?.getD undef, tm[14]?.getD undef, tm[15]?.getD undef, tm[16]?.getD undef, tm[17]?.getD undef, tm[18]?.getD undef, tm[19]?.getD undef, tm[20]?.getD undef, tm[21]?.getD undef, tm[22]?.getD undef, tm[23]?.getD undef, tm[24]?.getD undef, tm[25]?.getD undef, tm[26]?.getD undef, tm[27]?.getD undef, tm[28]?.getD undef, tm[29]?.getD undef, tm[30]?.getD undef, tm[31]?.getD undef, tm[32]?.getD undef, tm[33]?.getD undef, tm[34]?.getD undef, tm[35]?.getD undef, tm[36]?.getD undef, tm[37]?.getD undef, tm[38]?.getD undef, tm[39]?.getD undef, tm[40]?.getD undef, tm[41]?.getD undef, tm[42]?.getD undef, tm[43]?.getD undef, tm[44]?.getD undef, tm[45]?.getD undef, tm[46]?.getD undef, tm[47]?.getD undef, tm[48]?.getD undef, tm[49]?.getD undef, tm[50]?.getD undef, tm[51]?.getD undef, tm[52]?.getD undef, tm[53]?.getD undef, tm[54]?.getD undef, tm[55]?.getD undef, tm[56]?.getD undef, tm[57]?.getD undef] := (arr_get tm undef hsz).trans (by kernel_rfl)
    rw [f0, f1, f2, f3, e4, e5, f6, f7, f8, f19, f20, f21, f22, f23, f24, f25, f26, f27, f28, f29, f30, f31, f32, f33, f34, f35, f36, f37, f38, f39, f40, f41, f42, f43, f44, f45, f46, f47, f48, f49, f50, f51, f52, f53, f54, f55, f56, f57] at e
    rw [e]
    exact post p x y w' (tm[9]?.getD undef) (tm[10]?.getD undef) (tm[11]?.getD undef) (tm[12]?.getD undef) (tm[13]?.getD undef) (tm[14]?.getD undef) (tm[15]?.getD undef) (tm[16]?.getD undef) (tm[17]?.getD undef) (tm[18]?.getD undef) hWp hlay hvar g
  simp only [AllFrom]
  refine ⟨?_, ?_, ?_, ?_, ?_, ?_, ?_, ?_, ?_, ?_, ?_, ?_, ?_, trivial⟩
  · intro L c w' hL ho hw hc hd g
    exact ls_of hd g (by decide) (each_call (f := 15) (args := #[]) (by simp [go_sem]) ((ubp_kinds w').mono (by rintro e w'' ⟨v, rfl, hk, g'⟩; exact ⟨_, rfl, fun _ => hk, g'⟩)))
  · intro L c w' hL ho hw hc hd g
    have e1 : c.tmps[1]?.getD undef = .pointer (some ⟨ab, 0, none⟩) := ho 1 (by kernel_rfl)
    refine ls_of hd g (by decide) (each_value (v := .pointer (some ⟨ab, 0, none⟩)) ?_ rfl)
    simp [execOp, go_sem, e1]
  · intro L c w' hL ho hw hc hd g
    have e1 : c.tmps[11]?.getD undef = .pointer (some ⟨ab, 0, none⟩) := hd 1 11 (hw 1 (by kernel_rfl)) (by kernel_rfl)
    have hx := (T.out.grew g).c0
    refine ls_of hd g (by decide) (each_value (v := .int .u8 (a : Nat)) ?_ rfl)
    simp [execOp, go_sem, e1, hx]
  · intro L c w' hL ho hw hc hd g
    have e1 : c.tmps[1]?.getD undef = .pointer (some ⟨ab, 0, none⟩) := ho 1 (by kernel_rfl)
    refine ls_of hd g (by decide) (each_value (v := .pointer (some ⟨ab, 1, none⟩)) ?_ rfl)
    simp [execOp, go_sem, e1]
  · intro L c w' hL ho hw hc hd g
    have e1 : c.tmps[13]?.getD undef = .pointer (some ⟨ab, 1, none⟩) := hd 3 13 (hw 3 (by kernel_rfl)) (by kernel_rfl)
    have hx := (T.out.grew g).c1
    refine ls_of hd g (by decide) (each_value (v := .int .u8 (b : Nat)) ?_ rfl)
    simp [execOp, go_sem, e1, hx]
  · intro L c w' hL ho hw hc hd g
    have e1 : c.tmps[12]?.getD undef = .int .u8 (a : Nat) := hd 2 12 (hw 2 (by kernel_rfl)) (by kernel_rfl)
    have e2 : c.tmps[14]?.getD undef = .int .u8 (b : Nat) := hd 4 14 (hw 4 (by kernel_rfl)) (by kernel_rfl)
    refine ls_of hd g (by decide) (each_value (v := keyV a b) ?_ rfl)
    simp [execOp, go_sem, e1, e2, keyV]
  · intro L c w' hL ho hw hc hd g
    have hk : KindsAt w' (c.tmps[10]?.getD undef) := hd 0 10 (hw 0 (by kernel_rfl)) (by kernel_rfl) hL
    have e2 : c.eval (.tmp 15) = keyV a b := by
      have : c.tmps[15]?.getD undef = keyV a b := hd 5 15 (hw 5 (by kernel_rfl)) (by kernel_rfl)
      simpa [go_sem] using this
    have e1 : c.eval (.tmp 10) = c.tmps[10]?.getD undef := by simp [go_sem]
    obtain ⟨lv, hrun, hl⟩ := kinds_look w' _ hk a b ha hb
    refine ls_of hd g (by decide) (each_value (v := .tuple #[lv, .bool (decide ((ubxLay (a * 256 + b)).1 ≠ 0))]) ?_ ⟨lv, rfl, hl⟩)
    simp only [execOp, e1, e2, Sem.run_bind, hrun, Result.andThen_ok, Sem.run_pure]
  · intro L c w' hL ho hw hc hd g
    obtain ⟨lv, e1, hl⟩ : ∃ lv, c.tmps[16]?.getD undef = .tuple #[lv, .bool (decide ((ubxLay (a * 256 + b)).1 ≠ 0))] ∧ LayH w' lv (a * 256 + b) := hd 6 16 (hw 6 (by kernel_rfl)) (by kernel_rfl)
    refine ls_of hd g (by decide) (each_value (v := .tuple #[lv, .bool (decide ((ubxLay (a * 256 + b)).1 ≠ 0))]) ?_ ⟨lv, rfl, hl⟩)
    simp [execOp, go_sem, e1]
  · intro L c w' hL ho hw hc hd g
    obtain ⟨lv, e1, hl⟩ : ∃ lv, c.tmps[9]?.getD undef = .tuple #[lv, .bool (decide ((ubxLay (a * 256 + b)).1 ≠ 0))] ∧ LayH w' lv (a * 256 + b) := hd 7 9 (hw 7 (by kernel_rfl)) (by kernel_rfl)
    refine ls_of hd g (by decide) (each_value (v := lv) ?_ hl)
    simp [execOp, go_sem, e1]
  · intro L c w' hL ho hw hc hd g
    obtain ⟨lv, e1, hl⟩ : ∃ lv, c.tmps[9]?.getD undef = .tuple #[lv, .bool (decide ((ubxLay (a * 256 + b)).1 ≠ 0))] ∧ LayH w' lv (a * 256 + b) := hd 7 9 (hw 7 (by kernel_rfl)) (by kernel_rfl)
    refine ls_of hd g (by decide) (each_value (v := .bool (decide ((ubxLay (a * 256 + b)).1 ≠ 0))) ?_ rfl)
    simp [execOp, go_sem, e1]
  · intro L c w' hL ho hw hc hd g
    have hn : L 11 = false := by
      cases q : L 11 with
      | false => rfl
      | true => have := hc 11 10 q (by kernel_rfl); rw [hL] at this; cases this
    refine ls_of hd g (by decide) (each_made (v := .pointer (some ⟨w'.heap.size, 0, none⟩)) (w1 := w'.alloc (.cells #[.int .i64 0, .slice none 0 0] 42)) ?_ ((Grew.refl _).alloc _) ⟨_, rfl, g.size, by simp, ?_⟩)
    · simp [execOp, go_sem]
    · rw [also_ne (by decide), hn, if_neg (by decide)]
      exact ⟨_, _, heap_alloc_new _ _⟩
  · intro L c w' hL ho hw hc hd g
    obtain ⟨p, e4, hWp, hpl, h4⟩ := hd 10 4 (hw 10 (by kernel_rfl)) (by kernel_rfl)
    have h17 : LayH w' (c.tmps[17]?.getD undef) (a * 256 + b) := hd 8 17 (hw 8 (by kernel_rfl)) (by kernel_rfl)
    rw [hL, if_neg (by decide)] at h4
    obtain ⟨x0, y0, hblk⟩ := h4
    have h6 : L 6 = true := hw 6 (by kernel_rfl)
    have h17' := h17
    obtain ⟨A, cap, e17, hfb⟩ := h17
    have c0 : w'.cell? ⟨p, 0, none⟩ = some x0 := by rw [cell_of_row w' p 0 _ _ _ hblk]; rfl
    have c1 : w'.cell? ⟨p, 1, none⟩ = some y0 := by rw [cell_of_row w' p 1 _ _ _ hblk]; rfl
    have f0 : w'.frozen? ⟨p, 0, none⟩ = false := by simp [World.frozen?, hblk]
    have f1 : w'.frozen? ⟨p, 1, none⟩ = false := by simp [World.frozen?, hblk]
    obtain ⟨N, hN⟩ : ∃ N, (ubxLay (a * 256 + b)).1 = N := ⟨_, rfl⟩
    obtain ⟨K, hK⟩ : ∃ K, (ubxLay (a * 256 + b)).2.length / 2 = K := ⟨_, rfl⟩
    have e17' := e17
    rw [hN, hK] at e17
    have hF := ((Far.refl (fun x => x = p) w').setCell (p := ⟨p, 0, none⟩) rfl (.int .i64 (N : Nat))).setCell (p := ⟨p, 1, none⟩) rfl (.slice A K cap)
    have hvar : LayVar ((w'.setCell ⟨p, 0, none⟩ (.int .i64 (N : Nat))).setCell ⟨p, 1, none⟩ (.slice A K cap)) p (.int .i64 (N : Nat)) (.slice A K cap) := ⟨by simpa using hpl, by simp [go_sem, c0], by simp [go_sem, c1]⟩
    have hg1 : Grew W ((w'.setCell ⟨p, 0, none⟩ (.int .i64 (N : Nat))).setCell ⟨p, 1, none⟩ (.slice A K cap)) := (g.setCell hWp _).setCell hWp _
    have hex : ∀ o : Oper, o.op = .store 42 (.tmp 4) (.tmp 17) → (execOp c.eval o).run Try.prog w' = .ok .skip ((w'.setCell ⟨p, 0, none⟩ (.int .i64 (N : Nat))).setCell ⟨p, 1, none⟩ (.slice A K cap)) := fun o ho => by
      simp [execOp, ho, go_sem, e4, e17, c0, c1, f0, f1]
    generalize (w'.setCell ⟨p, 0, none⟩ (.int .i64 (N : Nat))).setCell ⟨p, 1, none⟩ (.slice A K cap) = w1 at *
    have hkept : ∀ (q : Nat) (cs : Array Value), w'.heap[q]? = some (.cells cs 49) → w1.heap[q]? = some (.cells cs 49) := fun q cs hq => by
      have hne : ¬ q = p := fun e => by subst e; rw [hblk] at hq; simp at hq
      exact (hF.block q (Array.getElem?_eq_some_iff.1 hq).1 hne).trans hq
    have hlay1 := h17'.kept hkept
    rw [e17', hN, hK] at hlay1
    unfold Oper.wp
    rw [hex _ rfl]
    refine ⟨undef, rfl, fun d hd' => (by cases hd'), fun j d hl hwr => ?_, hg1⟩
    have h : LookS (a * 256 + b) W ab a b L j w' (c.tmps[d]?.getD undef) := hd j d hl hwr
    show LookS (a * 256 + b) W ab a b (also L 11) j w1 (c.tmps[d]?.getD undef)
    unfold LookS at h ⊢
    split at h
    · intro hf
      unfold Proofs.Ytaaphnlkfmaeeaa.also at hf
      rw [h6, Bool.or_true] at hf
      cases hf
    · exact h
    · exact h
    · exact h
    · exact h
    · exact h
    · obtain ⟨lv, e, hl⟩ := h; exact ⟨lv, e, hl.kept hkept⟩
    · obtain ⟨lv, e, hl⟩ := h; exact ⟨lv, e, hl.kept hkept⟩
    · exact h.kept hkept
    · exact h
    · have : d = 4 := writes_one hwr (by kernel_rfl)
      subst this
      refine ⟨p, e4, hWp, hvar.lt, ?_⟩
      rw [if_pos (by unfold Proofs.Ytaaphnlkfmaeeaa.also; simp)]
      exact ⟨_, _, hlay1, hvar⟩
    · exact h
    · trivial
  · intro L c w' hL ho hw hc hd g
    have e1 : c.tmps[18]?.getD undef = .bool (decide ((ubxLay (a * 256 + b)).1 ≠ 0)) := hd 9 18 (hw 9 (by kernel_rfl)) (by kernel_rfl)
    refine ls_of hd g (by decide) (each_value (v := .bool (decide ((ubxLay (a * 256 + b)).1 ≠ 0))) ?_ rfl)
    simp [execOp, go_sem, e1]
-- LOOK]
-- [PAY
theorem fits_no {l zs : List Int} {k K : Nat} (h : fitsTo l zs (k + 1) = false) (hk : k < K) : fitsTo l zs K = false := by
  cases q : fitsTo l zs K with
  | false => rfl
  | true => rw [fitsTo_all q (k + 1) (by omega)] at h; cases h
set_option maxRecDepth 100000 in
set_option maxHeartbeats 8000000 in
theorem ubp_Payload (a b : Nat) (v : Value) (zs : List Int) (w : World) (ha : a < 256) (hb : b < 256) (hr : RowZ .i64 w v zs) (hz : In64 zs) (hl : zs.length ≤ 100000) :
    Calls Try.prog 10 #[.agg #[.int .u8 (a : Nat), .int .u8 (b : Nat), v]] w (PayT (ubxPay (a * 256 + b) zs) w) := by
  have hok := ubx_layOk (a * 256 + b)
  have HF := lay_field (a * 256 + b)
  have HLOOK := fun ab sv W T K0 t0 post => pay_look a b ab sv W T ha hb K0 t0 post
  have HNO := fun h => lay_no (c := a * 256 + b) h
  have HAT := fun w v (h : LayH w v (a * 256 + b)) => h.at_
  have hpay : ubxPay (a * 256 + b) zs = if (ubxLay (a * 256 + b)).1 = 0 then ([], 7) else if 2 * zs.length ≠ (ubxLay (a * 256 + b)).2.length then ([], 2) else if fitsTo (ubxLay (a * 256 + b)).2 zs zs.length = true then (payTo (ubxLay (a * 256 + b)).2 zs (ubxLay (a * 256 + b)).1 zs.length, 0) else ([], 2) := rfl
  generalize ubxPay (a * 256 + b) zs = r at *
  unfold LayAt at HAT
  generalize hc : a * 256 + b = c at *
  have HLay : ∀ w v, LayH w v c → _ := HAT
  generalize hn : (ubxLay c).1 = n at *
  generalize hll : (ubxLay c).2 = l at *
  have hev := hok.even
  have HP := Lib.hid hpay
  clear hpay
  have HR := Lib.hid hr
  obtain ⟨ZA, zc, rfl, hzc⟩ := hr.form
  clear hr
  go_enter Try.func10, Try.ntmps10
  go_upto_region 1 with fail
  obtain ⟨W, hW, g0, T0⟩ := three_new w (.int .u8 (a : Nat)) (.int .u8 (b : Nat)) (.slice ZA zs.length zc) 26
  rw [hW]
  clear hW
  have T1 := Lib.hid T0
  have hw0 := T0.lt
  clear T0
  go_cut [4, 5] (fun s t wx => ∃ (p : Nat) (A : Option Addr) (cap : Nat), s = .pointer (some ⟨p, 0, none⟩) ∧ t = .bool (!decide (n = 0)) ∧ W.heap.size ≤ p ∧ Hid (LayH wx (.agg #[.int .i64 (n : Nat), .slice A (l.length / 2) cap]) c) ∧ Hid (LayVar wx p (.int .i64 (n : Nat)) (.slice A (l.length / 2) cap)) ∧ Hid (Grew W wx))
  case first =>
    refine wp_thenU (HLOOK _ _ W T1 _ _ (fun p x y wx t9 t10 t11 t12 t13 t14 t15 t16 t17 t18 hWp hlay hvar hg => ?_))
    obtain ⟨A, cap, e, _⟩ := HAT _ _ hlay
    simp only [Value.agg.injEq, Array.mk.injEq, List.cons.injEq, and_true] at e
    obtain ⟨rfl, rfl⟩ := e
    go_wp2_with fail
    go_meet
    case rel => exact ⟨p, A, cap, rfl, rfl, hWp, Lib.hid hlay, Lib.hid hvar, Lib.hid hg⟩
  case rest =>
    obtain ⟨wX, hwX⟩ : ∃ x, x = wc := ⟨_, rfl⟩
    subst hwX
    obtain ⟨p, A, cap, rfl, rfl, hWp, hlay, hvar, hg⟩ := hcut
    have G1 := Lib.hid (g0.trans hg.out)
    obtain ⟨_, v0, v1⟩ := hvar.out
    obtain ⟨_, s0, s1, s2, _, _, _⟩ := T1.out.grew hg.out
    by_cases hn0 : n = 0
    · have HP0 : Hid (r = ([], 7)) := Lib.hid (by rw [HP.out, if_pos hn0])
      subst hn0
      go_wp2_with fail
      go_ret2
      rw [HP0.out]
      exact payT_no G1.out
    · by_cases hne : 2 * zs.length ≠ l.length
      · have n1 : ¬ (zs.length : Int) = (l.length : Int) / 2 := by omega
        go_wp2_with fail
        go_ret2
        rw [HP.out, if_neg hn0, if_pos hne]
        exact payT_no G1.out
      · have HP' : Hid (r = if fitsTo l zs zs.length = true then (payTo l zs n zs.length, 0) else ([], 2)) := Lib.hid (by rw [HP.out, if_neg hn0, if_neg hne])
        have hK2 : l.length / 2 = zs.length := by omega
        have h2K : 2 * zs.length = l.length := by omega
        rw [hK2] at v1 hlay hvar
        go_upto_region 7 with (refine wpList_makeN _ rfl _ _ 22 rfl wX.heap.size 5 .u8 1 Try.underlying22 infoU8 n rfl rfl (by omega) (by unfold maxLen; omega) (Nat.le_refl _) ?_; intro V2 hO0 gV2)
        have HLC := (HAT _ _ hlay.out)
        obtain ⟨A', cap', eA, HLC⟩ := HLC
        simp only [Value.agg.injEq, Array.mk.injEq, List.cons.injEq, and_true, Value.slice.injEq] at eA
        obtain ⟨-, rfl, -, rfl⟩ := eA
        have HLY := Lib.hid HLC
        have HFI := Lib.hid HF
        have HOK := Lib.hid hok
        have hpw : p < wX.heap.size := hvar.out.lt
        have hvl : wX.heap.size < V2.heap.size := (hO0.lt _ rfl).2
        have hz' := Lib.hid hz
        have F0 : Hid (Far (fun x => x = wX.heap.size) V2 V2) := Lib.hid (Far.refl _ _)
        obtain ⟨_, v0, v1⟩ := hvar.out.grew gV2
        have hw1 : w.heap.size < wX.heap.size := Nat.lt_of_lt_of_le hw0 hg.out.size
        have GA := Lib.hid (G1.out.trans gV2)
        clear HLC HF hok hz HP HLOOK HNO HAT HLay s0 s1 s2 hK2 hne
        go_wp2_with fail
        go_loopg [34] (zs.length) (fun kx s wr => ∃ k : Nat, k + kx = zs.length ∧ s = .int .i64 k ∧ Hid (Own wX.heap.size 5 .u8 wr (.slice (some ⟨wX.heap.size, 0, none⟩) n n) (payTo l zs n k)) ∧ Hid (fitsTo l zs k = true) ∧ Hid (Far (fun x => x = wX.heap.size) V2 wr))
        case atStart => exact ⟨0, by omega, rfl, Lib.hid (by unfold payTo; exact hO0), Lib.hid rfl, F0⟩
        case round =>
          obtain ⟨k, hk, rfl, hO, hft, hFa⟩ := hrel
          by_cases hlt : k < zs.length
          · obtain ⟨q, m, neg, e1, e2, hm, hpm⟩ := HFI.out k (by omega)
            obtain ⟨fb, rfl, hfb, c0, c1, c2⟩ := HLY.out k (by omega)
            rw [e1] at c0
            rw [e2, neg_abs] at c1
            rw [e2, neg_lt m neg hm.1] at c2
            have HFR := Lib.hid (fits_read HOK.out (zs := zs) (by omega) e1 e2)
            have hnx : Hid (putLE (payTo l zs n k) q (zi zs k) m = payTo l zs n (k + 1)) := Lib.hid (by rw [payTo, e1, e2, neg_abs]; rfl)
            have hpl := payTo_length l zs n k
            have hwr : wX.heap.size < wr.heap.size := (hO.out.lt _ rfl).2
            have hpl1 := payTo_length l zs n (k + 1)
            have hby1 := Lib.hid (payTo_bytes HOK.out (zs := zs) (k + 1) (by omega))
            have hfn := Lib.hid (show fitsTo l zs (k + 1) = (fitsTo l zs k && fitsZ (zi zs k) (zi l (2 * k + 1))) from rfl)
            rw [hft.out, Bool.true_and] at hfn
            obtain ⟨zb, zo, rfl, hzb, hzx⟩ := HR.out.at_ (i := k) hlt
            have hzk := hz'.out k
            have HWR := fun w' (g : Grew wr w') => Lib.hid (ubp_write wX.heap.size wX.heap.size n (payTo l zs n k) q m neg (zi zs k) w' (by have := hO.out.grew g; rwa [hpl]) (by omega) hm (by omega) hzk)
            rw [hnx.out, hpl] at HWR
            have HRD := fun w' v' (h : Row .u8 w' v' (payTo l zs n (k + 1))) => Lib.hid (ubp_read v' (payTo l zs n (k + 1)) q m neg w' h hby1.out (by omega) hm (by omega))
            have y0 := (hFa.out.cell (p := ⟨fb, k * 3, none⟩) (Nat.lt_trans hfb (by omega)) (by show ¬ fb = _; omega)).trans ((gV2.cell (p := ⟨fb, k * 3, none⟩) hfb).trans c0)
            have y1 := (hFa.out.cell (p := ⟨fb, k * 3 + 1, none⟩) (Nat.lt_trans hfb (by omega)) (by show ¬ fb = _; omega)).trans ((gV2.cell (p := ⟨fb, k * 3 + 1, none⟩) hfb).trans c1)
            have y2 := (hFa.out.cell (p := ⟨fb, k * 3 + 2, none⟩) (Nat.lt_trans hfb (by omega)) (by show ¬ fb = _; omega)).trans ((gV2.cell (p := ⟨fb, k * 3 + 2, none⟩) hfb).trans c2)
            have hzr := (hFa.out.cell (p := ⟨zb, zo + k, none⟩) (Nat.lt_of_lt_of_le hzb GA.out.size) (by show ¬ zb = _; omega)).trans ((GA.out.cell (p := ⟨zb, zo + k, none⟩) hzb).trans hzx)
            have TA := (T1.out.grew (hg.out.trans gV2)).far hFa.out (by show ¬ w.heap.size = _; omega)
            clear c0 c1 c2 hzx hzk
            generalize zi zs k = z at *
            go_upto_region 10 with fail
            obtain ⟨W3, hW3, g3, T3⟩ := three_new wr (.int .i64 (q : Nat)) (.int .i64 (m : Nat)) (.bool neg) 49
            rw [hW3]
            have hzb3 : zb < wr.heap.size := World.block_lt_of_cell? wr ⟨zb, zo + k, none⟩ hzr
            have hz3 := (g3.cell (p := ⟨zb, zo + k, none⟩) hzb3).trans hzr
            have T3' := Lib.hid T3
            have TA3 := Lib.hid (TA.grew g3)
            have hzbn : ¬ zb = wX.heap.size := by have := hzb; omega
            clear hW3 y0 y1 y2 hzr TA
            obtain ⟨_, x0, x1, x2, _, _, _⟩ := T3
            obtain ⟨_, _, _, s2, _, _, _⟩ := TA3.out
            go_cut [39] (fun s wx => Hid (Own wX.heap.size 5 .u8 wx (.slice (some ⟨wX.heap.size, 0, none⟩) n n) (payTo l zs n (k + 1))) ∧ Hid (Far (fun x => x = wX.heap.size) W3 wx))
            case first =>
              go_region_law (refine step_calls (f := 18) (args := #[.agg #[.int .i64 (q : Nat), .int .i64 (m : Nat), .bool neg], .slice (some ⟨wX.heap.size, 0, none⟩) n n, .int .i64 z]) rfl (by simp [go_sem]; done) ((HWR _ (Grew.trans g3 (by repeat (first | (with_reducible exact Grew.refl _) | (with_reducible refine Grew.drew ?_))))).out.mono ?_); rintro e w5 ⟨rfl, O5, F5⟩; refine ⟨_, rfl, ?_⟩)
              all_goals
                replace F5 := Far.trans (Far.of_grew (F := fun x => x = wX.heap.size) (Grew.refl W3).drew) F5
                clear HWR HRD HFR x0 x1 x2 s2 hz3
                go_wp2_with fail
                go_meet
                case rel => exact ⟨Lib.hid O5, Lib.hid F5⟩
            case rest =>
              obtain ⟨O5, F5⟩ := hcut
              obtain ⟨_, x0, x1, x2, _, _, _⟩ := T3'.out.far F5.out (by show ¬ _ = _; omega)
              have TA5 := TA3.out.far F5.out (by show ¬ _ = _; omega)
              have TA6 := Lib.hid TA5
              obtain ⟨_, _, _, s2, _, _, _⟩ := TA5
              have hz5 := (F5.out.cell (p := ⟨zb, zo + k, none⟩) (Nat.lt_of_lt_of_le hzb3 g3.size) hzbn).trans hz3
              have hR5 := Lib.hid O5.out.row
              have HR6 := fun w' (g : Grew wc w') => HRD w' _ (hR5.out.grew g)
              have hzb5 : zb < wc.heap.size := World.block_lt_of_cell? wc ⟨zb, zo + k, none⟩ hz5
              clear hz3 HWR HRD hR5
              cases hfit : fitsZ z (zi l (2 * k + 1)) with
              | true =>
                have hy := (HFR.out.2 hfit)
                rw [hy] at HR6
                rw [hfit] at hfn
                clear hy HFR
                go_wp2_with fail
                go_cut [55] (fun s wx => s = .bool false ∧ Hid (Grew wc wx))
                case first =>
                  go_region_law (refine step_calls (f := 16) (args := #[.agg #[.int .i64 (q : Nat), .int .i64 (m : Nat), .bool neg], .slice (some ⟨wX.heap.size, 0, none⟩) n n]) rfl (by simp [go_sem]; done) ((HR6 _ (by repeat (first | (with_reducible exact Grew.refl _) | (with_reducible refine Grew.drew ?_)))).out.mono ?_); rintro e w6 ⟨rfl, g6⟩; refine ⟨_, rfl, ?_⟩; replace g6 := Grew.trans (a := wc) (by repeat (first | (with_reducible exact Grew.refl _) | (with_reducible refine Grew.drew ?_))) g6; have s6 := (TA6.out.grew g6).c2; have z6 := (g6.cell (p := ⟨zb, zo + k, none⟩) hzb5).trans hz5)
                  all_goals
                    clear HR6 x0 x1 x2 s2 hz5
                    go_wp2_with fail
                    go_meet
                    case rel => exact ⟨by simp, Lib.hid (by first | assumption | exact (by assumption : Grew _ _).drew)⟩
                case rest =>
                  obtain ⟨rfl, g7⟩ := hcut
                  have O7 := Lib.hid (O5.out.grew g7.out)
                  have F7 := Lib.hid ((hFa.out.trans (Far.of_grew g3)).trans (F5.out.trans (Far.of_grew g7.out)))
                  clear HR6 x0 x1 x2 s2 hz5
                  go_wp2_with fail
                  go_roundg (zs.length - (k + 1))
                  case measure => omega
                  case rel => exact ⟨k + 1, by omega, by go_num, O7, hfn, F7⟩
              | false =>
                have hy : ¬ getZ (payTo l zs n (k + 1)) q (if neg then -(m : Int) else (m : Int)) = z := fun e => by have := HFR.out.1 e; rw [hfit] at this; cases this
                rw [hfit] at hfn
                have HPE : Hid (r = ([], 2)) := Lib.hid (by rw [HP'.out, if_neg (by rw [fits_no hfn hlt]; decide)])
                generalize getZ (payTo l zs n (k + 1)) q (if neg then -(m : Int) else (m : Int)) = y at *
                clear HFR HP'
                go_wp2_with fail
                go_cut [55] (fun s wx => s = .bool true ∧ Hid (Grew wc wx))
                case first =>
                  go_region_law (refine step_calls (f := 16) (args := #[.agg #[.int .i64 (q : Nat), .int .i64 (m : Nat), .bool neg], .slice (some ⟨wX.heap.size, 0, none⟩) n n]) rfl (by simp [go_sem]; done) ((HR6 _ (by repeat (first | (with_reducible exact Grew.refl _) | (with_reducible refine Grew.drew ?_)))).out.mono ?_); rintro e w6 ⟨rfl, g6⟩; refine ⟨_, rfl, ?_⟩; replace g6 := Grew.trans (a := wc) (by repeat (first | (with_reducible exact Grew.refl _) | (with_reducible refine Grew.drew ?_))) g6; have s6 := (TA6.out.grew g6).c2; have z6 := (g6.cell (p := ⟨zb, zo + k, none⟩) hzb5).trans hz5)
                  all_goals
                    clear HR6 x0 x1 x2 s2 hz5
                    go_wp2_with fail
                    go_meet
                    case rel => exact ⟨by simp [hy], Lib.hid (by first | assumption | exact (by assumption : Grew _ _).drew)⟩
                case rest =>
                  obtain ⟨rfl, g7⟩ := hcut
                  have F7 := Lib.hid ((hFa.out.trans (Far.of_grew g3)).trans (F5.out.trans (Far.of_grew g7.out)))
                  have GR := Lib.hid (F7.out.grew GA.out (fun x h => by have : x = wX.heap.size := h; omega))
                  clear HR6 x0 x1 x2 s2 hz5
                  go_wp2_with fail
                  go_ret2
                  rw [HPE.out]
                  exact payT_no GR.out
          · obtain rfl : k = zs.length := by omega
            have HPO : Hid (r = (payTo l zs n zs.length, 0)) := Lib.hid (by rw [HP'.out, if_pos hft.out])
            have OL := Lib.hid hO.out.lt
            have OR := Lib.hid hO.out.row
            have GR := Lib.hid (hFa.out.grew GA.out (fun x h => by have : x = wX.heap.size := h; omega))
            clear hO hFa HP' hft HFI HLY
            go_wp2_with fail
            go_ret2
            rw [HPO.out]
            exact ⟨_, rfl, OR.out, fun _ x hx => by have := OL.out x hx; omega, GR.out⟩
-- PAY]
end Go.Proofs.Ytaaphnlkfmaeeaa
