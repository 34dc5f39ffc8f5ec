/-
  The program's UBX messages: a payload written.
  The program's UBX messages: a frame.
  Rows of integers: what an argument tells; a call's own, joined.
  The program's SiRF messages: a payload written.
  The program's SiRF messages: a frame; all calls of layer 13 together.
-/
import Derived.Test.YtcdmbnbanopioaaGreatDoorP04
import Derived.Test.YtcdmbnbanopioaaGreatDoorP09
import Derived.Test.YtcdmbnbanopioaaGreatDoorP02
import Derived.OwnWalk
import Derived.Test.YtcdmbnbanopioaaGreatDoorP06
import Derived.Test.YtcdmbnbanopioaaGreatDoorP10

namespace Go.Proofs.YtcdmbnbanopioaaGreatDoor
open Go.RowKit
set_option linter.unusedVariables false

/-- Whole numbers of 64 bits. -/
def In64 (zs : List Int) : Prop := ∀ i, -9223372036854775808 ≤ zi zs i ∧ zi zs i ≤ 9223372036854775807
/-- What writing a message tells. -/
def PayT (r : List Nat × Nat) (w : World) (e : Ending) (w' : World) : Prop :=
  ∃ v, e = .returned (.tuple #[v, .int .i64 (r.2 : Nat)]) ∧ Row .u8 w' v r.1 ∧ (0 < r.1.length → ∀ x, v.ownBlock = some x → w.heap.size ≤ x) ∧ Grew w w'
theorem payT_no {er : Nat} {w w' : World} (g : Grew w w') : PayT ([], er) w (.returned (.tuple #[.slice none 0 0, .int .i64 (er : Nat)])) w' :=
  ⟨_, rfl, Row.nil _ _, (fun q => absurd q (by simp)), g⟩
theorem fits_read {l zs : List Int} {n k p m : Nat} {neg : Bool} (hok : LayOk l n) (hk : 2 * k + 1 < l.length) (e1 : zi l (2 * k) = (p : Nat)) (e2 : zi l (2 * k + 1) = (if neg then -(m : Int) else (m : Int))) :
    getZ (payTo l zs n (k + 1)) p (if neg then -(m : Int) else (m : Int)) = zi zs k ↔ fitsZ (zi zs k) (zi l (2 * k + 1)) = true := by
  have h := payTo_num hok k (k + 1) (by omega) (by omega) (zs := zs)
  rw [e1, e2] at h
  rw [e2, getZ_sign]
  exact sign_mod _ _ _ (by have := (hok.size k hk).1; rw [e2] at this; exact this) (by simpa using h)
def regIn (n : Nat) : Code → Array Oper
  | .region k ops _ => if k = n then ops else #[]
  | .seq a b => regIn n a ++ regIn n b
  | .block _ c => regIn n c
  | .loop c => regIn n c
  | .scope c => regIn n c
  | .cond _ a b => regIn n a ++ regIn n b
  | _ => #[]
theorem arr_get {α : Type} (t : Array α) (d : α) {n : Nat} (h : t.size = n) : t = ((List.range n).map fun k => t[k]?.getD d).toArray := by
  refine Array.ext (by simpa using h) fun i h1 h2 => ?_
  simp [h1]
def regOf (n : Nat) : Code → Option Code
  | .region k ops d => if k = n then some (.region k ops d) else none
  | .seq a b => match regOf n a with
    | some c => some c
    | none => regOf n b
  | .block _ c => regOf n c
  | .loop c => regOf n c
  | .scope c => regOf n c
  | .cond _ a b => match regOf n a with
    | some c => some c
    | none => regOf n b
  | _ => none
noncomputable def payOps : Array Oper := (Tryz.f46.body.map (regIn 1)).getD #[]
noncomputable def payCode : Code := (Tryz.f46.body.bind (regOf 1)).getD .skip
theorem writes_one {ops : Array Oper} {j d d' : Nat} (h : writes ops j d = true) (h' : writes ops j d' = true) : d = d' := by
  unfold writes at h h'
  cases hq : ops[j]? with
  | none => rw [hq] at h; cases h
  | some p =>
    rw [hq] at h h'
    simp only [beq_iff_eq] at h h'
    exact Option.some.inj (h.symm.trans h')
/-- What the operations of the look-up leave. -/
def LookS (c : Nat) (W : World) (ab a b : Nat) (L : Nat → Bool) (i : Nat) (w : World) (v : Value) : Prop :=
  match i with
  | 0 => L 6 = false → KindsAt w v
  | 1 => v = .pointer (some ⟨ab, 0, none⟩)
  | 2 => v = .int .u8 (a : Nat)
  | 3 => v = .pointer (some ⟨ab, 1, none⟩)
  | 4 => v = .int .u8 (b : Nat)
  | 5 => v = keyV a b
  | 6 => ∃ lv, v = .tuple #[lv, .bool (decide ((ubxLay c).1 ≠ 0))] ∧ LayH w lv c
  | 7 => ∃ lv, v = .tuple #[lv, .bool (decide ((ubxLay c).1 ≠ 0))] ∧ LayH w lv c
  | 8 => LayH w v c
  | 9 => v = .bool (decide ((ubxLay c).1 ≠ 0))
  | 10 => ∃ p, v = .pointer (some ⟨p, 0, none⟩) ∧ W.heap.size ≤ p ∧ p < w.heap.size ∧ (if L 11 = true then ∃ x y, LayH w (.agg #[x, y]) c ∧ LayVar w p x y else ∃ x y, w.heap[p]? = some (.cells #[x, y] 104))
  | 12 => v = .bool (decide ((ubxLay c).1 ≠ 0))
  | _ => True
theorem layH_grew {w w' : World} {v : Value} {c : Nat} (h : LayH w v c) (g : Grew w w') : LayH w' v c := h.kept fun b cs hb => (Below.block g b (Array.getElem?_eq_some_iff.1 hb).1).trans hb
theorem LookS.also {c : Nat} {W : World} {ab a b : Nat} {L : Nat → Bool} {i j : Nat} {w w' : World} {v : Value} (h : LookS c W ab a b L i w v) (g : Grew w w') (hj : j ≠ 11) : LookS c W ab a b (also L j) i w' v := by
  unfold LookS at h ⊢
  split at h
  · intro hf
    have : L 6 = false := by unfold Proofs.YtcdmbnbanopioaaGreatDoor.also at hf; cases q : L 6 with | false => rfl | true => rw [q, Bool.or_true] at hf; cases hf
    exact (h this).grew g
  · exact h
  · exact h
  · exact h
  · exact h
  · exact h
  · obtain ⟨lv, e, hl⟩ := h; exact ⟨lv, e, layH_grew hl g⟩
  · obtain ⟨lv, e, hl⟩ := h; exact ⟨lv, e, layH_grew hl g⟩
  · exact layH_grew h g
  · exact h
  · obtain ⟨p, e, h1, h2, h3⟩ := h
    refine ⟨p, e, h1, Nat.lt_of_lt_of_le h2 g.size, ?_⟩
    rw [also_ne (by omega)]
    split at h3
    · rename_i q
      rw [if_pos q]
      obtain ⟨x, y, k1, k2⟩ := h3
      exact ⟨x, y, layH_grew k1 g, k2.grew g⟩
    · rename_i q
      rw [if_neg q]
      obtain ⟨x, y, k1⟩ := h3
      exact ⟨x, y, (Below.block g p h2).trans k1⟩
  · exact h
  · trivial
section
variable {P : Program} {Q : Exit → Act → World → Prop} {o : Oper} {a : Act} {w W : World} {L : Nat → Bool} {ops : Array Oper} {i c ab x y : Nat}
theorem ls_of (hd : ∀ j d, L j = true → writes ops j d = true → LookS c W ab x y L j w (a.tmps[d]?.getD undef)) (g : Grew W w) (hi : i ≠ 11)
    (h : o.wp P a w (fun a' w'' => ∃ v, a' = a.put o.dst v ∧ LookS c W ab x y (also L i) i w'' v ∧ Grew w w'') Q) :
    o.wp P a w (fun a' w' => ∃ v, a' = a.put o.dst v ∧ (∀ d, o.dst = some d → LookS c W ab x y (also L i) i w' v) ∧ (∀ j d, L j = true → writes ops j d = true → LookS c W ab x y (also L i) j w' (a.tmps[d]?.getD undef)) ∧ Grew W w') Q :=
  Oper.wp_mono (fun a' w' ⟨v, h1, h2, h3⟩ => ⟨v, h1, fun _ _ => h2, fun j d hl hw => (hd j d hl hw).also h3 hi, g.trans h3⟩) h
end
theorem wp_thenU {P : Program} {c : Code} {K : Act → World → Prop} {Q : Exit → Act → World → Prop} {a : Act} {w : World} (h : c.wp P (Exit.then K fun _ _ _ => False) a w) : c.wp P (Exit.then K Q) a w :=
  wp_mono h (fun e a' w' q => by cases e <;> first | exact q | exact q.elim)
-- [LOOK
set_option maxRecDepth 1000000 in
set_option maxHeartbeats 8000000 in
theorem pay_look (a b ab : Nat) (sv : Value) (W : World) (T : Hid (ThreeAt W ab (.int .u8 (a : Nat)) (.int .u8 (b : Nat)) sv)) (ha : a < 256) (hb : b < 256) (K0 : Act → World → Prop) (t0 : Value)
    (post : ∀ (p : Nat) (x y : Value) (w' : World) (t9 t10 t11 t12 t13 t14 t15 t16 t17 t18 : Value), W.heap.size ≤ p → LayH w' (.agg #[x, y]) (a * 256 + b) → LayVar w' p x y → Grew W w' → K0 ⟨#[t0, .pointer (some ⟨ab, 0, none⟩), .slice none 0 0, .int .i64 0, .pointer (some ⟨p, 0, none⟩), .bool (decide ((ubxLay (a * 256 + b)).1 ≠ 0)), undef, undef, undef, t9, t10, t11, t12, t13, t14, t15, t16, t17, t18, undef, undef, undef, undef, undef, undef, undef, undef, undef, undef, undef, undef, undef, undef, undef, undef, undef, undef, undef, undef, undef, undef, undef, undef, undef, undef, undef, undef, undef, undef, undef, undef, undef, undef, undef, undef, undef, undef, undef], []⟩ w') :
    Code.wp Tryz.prog payCode (Exit.then K0 fun _ _ _ => False) ⟨#[t0, .pointer (some ⟨ab, 0, none⟩), .slice none 0 0, .int .i64 0, undef, undef, undef, undef, undef, undef, undef, undef, undef, undef, undef, undef, undef, undef, undef, undef, undef, undef, undef, undef, undef, undef, undef, undef, undef, undef, undef, undef, undef, undef, undef, undef, undef, undef, undef, undef, undef, undef, undef, undef, undef, undef, undef, undef, undef, undef, undef, undef, undef, undef, undef, undef, undef, undef], []⟩ W := by
  conv => arg 2; whnf
  refine wp_region_fill (n := 58) (ops := payOps) (by kernel_rfl) (fun L i w' v => LookS (a * 256 + b) W ab a b L i w' v) ?_ ?_ ?_ ?_ ?_
  case refine_1 => kernel_rfl
  case refine_2 => kernel_rfl
  case refine_3 => rfl
  case refine_5 =>
    intro L c w' hL hdef hsz ho hd g
    obtain ⟨tm, df⟩ := c
    simp only at hdef hsz ho hd
    subst hdef
    obtain ⟨p, e4, hWp, _, h4⟩ := hd 10 4 (by kernel_rfl)
    rw [if_pos (hL 11 (of_decide_eq_true (by kernel_rfl)))] at h4
    obtain ⟨x, y, hlay, hvar⟩ := h4
    have e5 : tm[5]?.getD undef = .bool (decide ((ubxLay (a * 256 + b)).1 ≠ 0)) := hd 12 5 (by kernel_rfl)
    have f0 : tm[0]?.getD undef = t0 := ho 0 (by kernel_rfl)
    have f1 : tm[1]?.getD undef = .pointer (some ⟨ab, 0, none⟩) := ho 1 (by kernel_rfl)
    have f2 : tm[2]?.getD undef = .slice none 0 0 := ho 2 (by kernel_rfl)
    have f3 : tm[3]?.getD undef = .int .i64 0 := ho 3 (by kernel_rfl)
    have f6 : tm[6]?.getD undef = undef := ho 6 (by kernel_rfl)
    have f7 : tm[7]?.getD undef = undef := ho 7 (by kernel_rfl)
    have f8 : tm[8]?.getD undef = undef := ho 8 (by kernel_rfl)
    have f19 : tm[19]?.getD undef = undef := ho 19 (by kernel_rfl)
    have f20 : tm[20]?.getD undef = undef := ho 20 (by kernel_rfl)
    have f21 : tm[21]?.getD undef = undef := ho 21 (by kernel_rfl)
    have f22 : tm[22]?.getD undef = undef := ho 22 (by kernel_rfl)
    have f23 : tm[23]?.getD undef = undef := ho 23 (by kernel_rfl)
    have f24 : tm[24]?.getD undef = undef := ho 24 (by kernel_rfl)
    have f25 : tm[25]?.getD undef = undef := ho 25 (by kernel_rfl)
    have f26 : tm[26]?.getD undef = undef := ho 26 (by kernel_rfl)
    have f27 : tm[27]?.getD undef = undef := ho 27 (by kernel_rfl)
    have f28 : tm[28]?.getD undef = undef := ho 28 (by kernel_rfl)
    have f29 : tm[29]?.getD undef = undef := ho 29 (by kernel_rfl)
    have f30 : tm[30]?.getD undef = undef := ho 30 (by kernel_rfl)
    have f31 : tm[31]?.getD undef = undef := ho 31 (by kernel_rfl)
    have f32 : tm[32]?.getD undef = undef := ho 32 (by kernel_rfl)
    have f33 : tm[33]?.getD undef = undef := ho 33 (by kernel_rfl)
    have f34 : tm[34]?.getD undef = undef := ho 34 (by kernel_rfl)
    have f35 : tm[35]?.getD undef = undef := ho 35 (by kernel_rfl)
    have f36 : tm[36]?.getD undef = undef := ho 36 (by kernel_rfl)
    have f37 : tm[37]?.getD undef = undef := ho 37 (by kernel_rfl)
    have f38 : tm[38]?.getD undef = undef := ho 38 (by kernel_rfl)
    have f39 : tm[39]?.getD undef = undef := ho 39 (by kernel_rfl)
    have f40 : tm[40]?.getD undef = undef := ho 40 (by kernel_rfl)
    have f41 : tm[41]?.getD undef = undef := ho 41 (by kernel_rfl)
    have f42 : tm[42]?.getD undef = undef := ho 42 (by kernel_rfl)
    have f43 : tm[43]?.getD undef = undef := ho 43 (by kernel_rfl)
    have f44 : tm[44]?.getD undef = undef := ho 44 (by kernel_rfl)
    have f45 : tm[45]?.getD undef = undef := ho 45 (by kernel_rfl)
    have f46 : tm[46]?.getD undef = undef := ho 46 (by kernel_rfl)
    have f47 : tm[47]?.getD undef = undef := ho 47 (by kernel_rfl)
    have f48 : tm[48]?.getD undef = undef := ho 48 (by kernel_rfl)
    have f49 : tm[49]?.getD undef = undef := ho 49 (by kernel_rfl)
    have f50 : tm[50]?.getD undef = undef := ho 50 (by kernel_rfl)
    have f51 : tm[51]?.getD undef = undef := ho 51 (by kernel_rfl)
    have f52 : tm[52]?.getD undef = undef := ho 52 (by kernel_rfl)
    have f53 : tm[53]?.getD undef = undef := ho 53 (by kernel_rfl)
    have f54 : tm[54]?.getD undef = undef := ho 54 (by kernel_rfl)
    have f55 : tm[55]?.getD undef = undef := ho 55 (by kernel_rfl)
    have f56 : tm[56]?.getD undef = undef := ho 56 (by kernel_rfl)
    have f57 : tm[57]?.getD undef = undef := ho 57 (by kernel_rfl)
    have e : tm = #[tm[0]?.getD undef, tm[1]?.getD undef, tm[2]?.getD undef, tm[3]?.getD undef, tm[4]?.getD undef, tm[5]?.getD undef, tm[6]?.getD undef, tm[7]?.getD undef, tm[8]?.getD undef, tm[9]?.getD undef, tm[10]?.getD undef, tm[11]?.getD undef, tm[12]?.getD undef, tm[13]?.getD undef, tm[14]?.getD undef, tm[15]?.getD undef, tm[16]?.getD undef, tm[17]?.getD undef, tm[18]?.getD undef, tm[19]?.getD undef, tm[20]?.getD undef, tm[21]?.getD undef, tm[22]?.getD undef, tm[23]?.getD undef, tm[24]?.getD undef, tm[25]?.getD undef, tm[26]?.getD undef, tm[27]?.getD undef, tm[28]?.getD undef, tm[29]?.getD undef, tm[30]?.getD undef, tm[31]?.getD undef, tm[32]?.getD undef, tm[33]?.getD undef, tm[34]?.getD undef, tm[35]?.getD undef, tm[36]?.getD undef, tm[37]?.getD undef, tm[38]?.getD undef, tm[39]?.getD undef, tm[40]?.getD undef, tm[41]?.getD undef, tm[42]?.getD undef, tm[43]?.getD undef, tm[44]?.getD undef, tm[45]?.getD undef, tm[46]?.getD undef, tm[47]?.getD undef, tm[48]?.getD undef, tm[49]?.getD undef, tm[50]?.getD undef, tm[51]?.getD undef, tm[52]?.getD undef, tm[53]?.getD undef, tm[54]?.getD undef, tm[55]?.getD undef, tm[56]?.getD undef, tm[57]?.getD undef] := (arr_get tm undef hsz).trans (by kernel_rfl)
    rw [f0, f1, f2, f3, e4, e5, f6, f7, f8, f19, f20, f21, f22, f23, f24, f25, f26, f27, f28, f29, f30, f31, f32, f33, f34, f35, f36, f37, f38, f39, f40, f41, f42, f43, f44, f45, f46, f47, f48, f49, f50, f51, f52, f53, f54, f55, f56, f57] at e
    rw [e]
    exact post p x y w' (tm[9]?.getD undef) (tm[10]?.getD undef) (tm[11]?.getD undef) (tm[12]?.getD undef) (tm[13]?.getD undef) (tm[14]?.getD undef) (tm[15]?.getD undef) (tm[16]?.getD undef) (tm[17]?.getD undef) (tm[18]?.getD undef) hWp hlay hvar g
  simp only [AllFrom]
  refine ⟨?_, ?_, ?_, ?_, ?_, ?_, ?_, ?_, ?_, ?_, ?_, ?_, ?_, trivial⟩
  · intro L c w' hL ho hw hc hd g
    exact ls_of hd g (by decide) (each_call (f := 65) (args := #[]) (by simp [go_sem]) ((ubp_kinds w').mono (by rintro e w'' ⟨v, rfl, hk, g'⟩; exact ⟨_, rfl, fun _ => hk, g'⟩)))
  · intro L c w' hL ho hw hc hd g
    have e1 : c.tmps[1]?.getD undef = .pointer (some ⟨ab, 0, none⟩) := ho 1 (by kernel_rfl)
    refine ls_of hd g (by decide) (each_value (v := .pointer (some ⟨ab, 0, none⟩)) ?_ rfl)
    simp [execOp, go_sem, e1]
  · intro L c w' hL ho hw hc hd g
    have e1 : c.tmps[11]?.getD undef = .pointer (some ⟨ab, 0, none⟩) := hd 1 11 (hw 1 (by kernel_rfl)) (by kernel_rfl)
    have hx := (T.out.grew g).c0
    refine ls_of hd g (by decide) (each_value (v := .int .u8 (a : Nat)) ?_ rfl)
    simp [execOp, go_sem, e1, hx]
  · intro L c w' hL ho hw hc hd g
    have e1 : c.tmps[1]?.getD undef = .pointer (some ⟨ab, 0, none⟩) := ho 1 (by kernel_rfl)
    refine ls_of hd g (by decide) (each_value (v := .pointer (some ⟨ab, 1, none⟩)) ?_ rfl)
    simp [execOp, go_sem, e1]
  · intro L c w' hL ho hw hc hd g
    have e1 : c.tmps[13]?.getD undef = .pointer (some ⟨ab, 1, none⟩) := hd 3 13 (hw 3 (by kernel_rfl)) (by kernel_rfl)
    have hx := (T.out.grew g).c1
    refine ls_of hd g (by decide) (each_value (v := .int .u8 (b : Nat)) ?_ rfl)
    simp [execOp, go_sem, e1, hx]
  · intro L c w' hL ho hw hc hd g
    have e1 : c.tmps[12]?.getD undef = .int .u8 (a : Nat) := hd 2 12 (hw 2 (by kernel_rfl)) (by kernel_rfl)
    have e2 : c.tmps[14]?.getD undef = .int .u8 (b : Nat) := hd 4 14 (hw 4 (by kernel_rfl)) (by kernel_rfl)
    refine ls_of hd g (by decide) (each_value (v := keyV a b) ?_ rfl)
    simp [execOp, go_sem, e1, e2, keyV]
  · intro L c w' hL ho hw hc hd g
    have hk : KindsAt w' (c.tmps[10]?.getD undef) := hd 0 10 (hw 0 (by kernel_rfl)) (by kernel_rfl) hL
    have e2 : c.eval (.tmp 15) = keyV a b := by
      have : c.tmps[15]?.getD undef = keyV a b := hd 5 15 (hw 5 (by kernel_rfl)) (by kernel_rfl)
      simpa [go_sem] using this
    have e1 : c.eval (.tmp 10) = c.tmps[10]?.getD undef := by simp [go_sem]
    obtain ⟨lv, hrun, hl⟩ := kinds_look w' _ hk a b ha hb
    refine ls_of hd g (by decide) (each_value (v := .tuple #[lv, .bool (decide ((ubxLay (a * 256 + b)).1 ≠ 0))]) ?_ ⟨lv, rfl, hl⟩)
    simp only [execOp, e1, e2, Sem.run_bind, hrun, Result.andThen_ok, Sem.run_pure]
  · intro L c w' hL ho hw hc hd g
    obtain ⟨lv, e1, hl⟩ : ∃ lv, c.tmps[16]?.getD undef = .tuple #[lv, .bool (decide ((ubxLay (a * 256 + b)).1 ≠ 0))] ∧ LayH w' lv (a * 256 + b) := hd 6 16 (hw 6 (by kernel_rfl)) (by kernel_rfl)
    refine ls_of hd g (by decide) (each_value (v := .tuple #[lv, .bool (decide ((ubxLay (a * 256 + b)).1 ≠ 0))]) ?_ ⟨lv, rfl, hl⟩)
    simp [execOp, go_sem, e1]
  · intro L c w' hL ho hw hc hd g
    obtain ⟨lv, e1, hl⟩ : ∃ lv, c.tmps[9]?.getD undef = .tuple #[lv, .bool (decide ((ubxLay (a * 256 + b)).1 ≠ 0))] ∧ LayH w' lv (a * 256 + b) := hd 7 9 (hw 7 (by kernel_rfl)) (by kernel_rfl)
    refine ls_of hd g (by decide) (each_value (v := lv) ?_ hl)
    simp [execOp, go_sem, e1]
  · intro L c w' hL ho hw hc hd g
    obtain ⟨lv, e1, hl⟩ : ∃ lv, c.tmps[9]?.getD undef = .tuple #[lv, .bool (decide ((ubxLay (a * 256 + b)).1 ≠ 0))] ∧ LayH w' lv (a * 256 + b) := hd 7 9 (hw 7 (by kernel_rfl)) (by kernel_rfl)
    refine ls_of hd g (by decide) (each_value (v := .bool (decide ((ubxLay (a * 256 + b)).1 ≠ 0))) ?_ rfl)
    simp [execOp, go_sem, e1]
  · intro L c w' hL ho hw hc hd g
    have hn : L 11 = false := by
      cases q : L 11 with
      | false => rfl
      | true => have := hc 11 10 q (by kernel_rfl); rw [hL] at this; cases this
    refine ls_of hd g (by decide) (each_made (v := .pointer (some ⟨w'.heap.size, 0, none⟩)) (w1 := w'.alloc (.cells #[.int .i64 0, .slice none 0 0] 104)) ?_ ((Grew.refl _).alloc _) ⟨_, rfl, g.size, by simp, ?_⟩)
    · simp [execOp, go_sem]
    · rw [also_ne (by decide), hn, if_neg (by decide)]
      exact ⟨_, _, heap_alloc_new _ _⟩
  · intro L c w' hL ho hw hc hd g
    obtain ⟨p, e4, hWp, hpl, h4⟩ := hd 10 4 (hw 10 (by kernel_rfl)) (by kernel_rfl)
    have h17 : LayH w' (c.tmps[17]?.getD undef) (a * 256 + b) := hd 8 17 (hw 8 (by kernel_rfl)) (by kernel_rfl)
    rw [hL, if_neg (by decide)] at h4
    obtain ⟨x0, y0, hblk⟩ := h4
    have h6 : L 6 = true := hw 6 (by kernel_rfl)
    have h17' := h17
    obtain ⟨A, cap, e17, hfb⟩ := h17
    have c0 : w'.cell? ⟨p, 0, none⟩ = some x0 := by rw [cell_of_row w' p 0 _ _ _ hblk]; rfl
    have c1 : w'.cell? ⟨p, 1, none⟩ = some y0 := by rw [cell_of_row w' p 1 _ _ _ hblk]; rfl
    have f0 : w'.frozen? ⟨p, 0, none⟩ = false := by simp [World.frozen?, hblk]
    have f1 : w'.frozen? ⟨p, 1, none⟩ = false := by simp [World.frozen?, hblk]
    obtain ⟨N, hN⟩ : ∃ N, (ubxLay (a * 256 + b)).1 = N := ⟨_, rfl⟩
    obtain ⟨K, hK⟩ : ∃ K, (ubxLay (a * 256 + b)).2.length / 2 = K := ⟨_, rfl⟩
    have e17' := e17
    rw [hN, hK] at e17
    have hF := ((Far.refl (fun x => x = p) w').setCell (p := ⟨p, 0, none⟩) rfl (.int .i64 (N : Nat))).setCell (p := ⟨p, 1, none⟩) rfl (.slice A K cap)
    have hvar : LayVar ((w'.setCell ⟨p, 0, none⟩ (.int .i64 (N : Nat))).setCell ⟨p, 1, none⟩ (.slice A K cap)) p (.int .i64 (N : Nat)) (.slice A K cap) := ⟨by simpa using hpl, by simp [go_sem, c0], by simp [go_sem, c1]⟩
    have hg1 : Grew W ((w'.setCell ⟨p, 0, none⟩ (.int .i64 (N : Nat))).setCell ⟨p, 1, none⟩ (.slice A K cap)) := (g.setCell hWp _).setCell hWp _
    have hex : ∀ o : Oper, o.op = .store 104 (.tmp 4) (.tmp 17) → (execOp c.eval o).run Tryz.prog w' = .ok .skip ((w'.setCell ⟨p, 0, none⟩ (.int .i64 (N : Nat))).setCell ⟨p, 1, none⟩ (.slice A K cap)) := fun o ho => by
      simp [execOp, ho, go_sem, e4, e17, c0, c1, f0, f1]
    generalize (w'.setCell ⟨p, 0, none⟩ (.int .i64 (N : Nat))).setCell ⟨p, 1, none⟩ (.slice A K cap) = w1 at *
    have hkept : ∀ (q : Nat) (cs : Array Value), w'.heap[q]? = some (.cells cs 111) → w1.heap[q]? = some (.cells cs 111) := fun q cs hq => by
      have hne : ¬ q = p := fun e => by subst e; rw [hblk] at hq; simp at hq
      exact (hF.block q (Array.getElem?_eq_some_iff.1 hq).1 hne).trans hq
    have hlay1 := h17'.kept hkept
    rw [e17', hN, hK] at hlay1
    unfold Oper.wp
    rw [hex _ rfl]
    refine ⟨undef, rfl, fun d hd' => (by cases hd'), fun j d hl hwr => ?_, hg1⟩
    have h : LookS (a * 256 + b) W ab a b L j w' (c.tmps[d]?.getD undef) := hd j d hl hwr
    show LookS (a * 256 + b) W ab a b (also L 11) j w1 (c.tmps[d]?.getD undef)
    unfold LookS at h ⊢
    split at h
    · intro hf
      unfold Proofs.YtcdmbnbanopioaaGreatDoor.also at hf
      rw [h6, Bool.or_true] at hf
      cases hf
    · exact h
    · exact h
    · exact h
    · exact h
    · exact h
    · obtain ⟨lv, e, hl⟩ := h; exact ⟨lv, e, hl.kept hkept⟩
    · obtain ⟨lv, e, hl⟩ := h; exact ⟨lv, e, hl.kept hkept⟩
    · exact h.kept hkept
    · exact h
    · have : d = 4 := writes_one hwr (by kernel_rfl)
      subst this
      refine ⟨p, e4, hWp, hvar.lt, ?_⟩
      rw [if_pos (by unfold Proofs.YtcdmbnbanopioaaGreatDoor.also; simp)]
      exact ⟨_, _, hlay1, hvar⟩
    · exact h
    · trivial
  · intro L c w' hL ho hw hc hd g
    have e1 : c.tmps[18]?.getD undef = .bool (decide ((ubxLay (a * 256 + b)).1 ≠ 0)) := hd 9 18 (hw 9 (by kernel_rfl)) (by kernel_rfl)
    refine ls_of hd g (by decide) (each_value (v := .bool (decide ((ubxLay (a * 256 + b)).1 ≠ 0))) ?_ rfl)
    simp [execOp, go_sem, e1]
-- LOOK]
-- [PAY
theorem fits_no {l zs : List Int} {k K : Nat} (h : fitsTo l zs (k + 1) = false) (hk : k < K) : fitsTo l zs K = false := by
  cases q : fitsTo l zs K with
  | false => rfl
  | true => rw [fitsTo_all q (k + 1) (by omega)] at h; cases h
set_option maxRecDepth 100000 in
set_option maxHeartbeats 8000000 in
theorem ubp_Payload (a b : Nat) (v : Value) (zs : List Int) (w : World) (ha : a < 256) (hb : b < 256) (hr : RowZ .i64 w v zs) (hz : In64 zs) (hl : zs.length ≤ 100000) :
    Calls Tryz.prog 46 #[.agg #[.int .u8 (a : Nat), .int .u8 (b : Nat), v]] w (PayT (ubxPay (a * 256 + b) zs) w) := by
  have hok := ubx_layOk (a * 256 + b)
  have HF := lay_field (a * 256 + b)
  have HLOOK := fun ab sv W T K0 t0 post => pay_look a b ab sv W T ha hb K0 t0 post
  have HNO := fun h => lay_no (c := a * 256 + b) h
  have HAT := fun w v (h : LayH w v (a * 256 + b)) => h.at_
  have hpay : ubxPay (a * 256 + b) zs = if (ubxLay (a * 256 + b)).1 = 0 then ([], 7) else if 2 * zs.length ≠ (ubxLay (a * 256 + b)).2.length then ([], 2) else if fitsTo (ubxLay (a * 256 + b)).2 zs zs.length = true then (payTo (ubxLay (a * 256 + b)).2 zs (ubxLay (a * 256 + b)).1 zs.length, 0) else ([], 2) := rfl
  generalize ubxPay (a * 256 + b) zs = r at *
  unfold LayAt at HAT
  generalize hc : a * 256 + b = c at *
  have HLay : ∀ w v, LayH w v c → _ := HAT
  generalize hn : (ubxLay c).1 = n at *
  generalize hll : (ubxLay c).2 = l at *
  have hev := hok.even
  have HP := Lib.hid hpay
  clear hpay
  have HR := Lib.hid hr
  obtain ⟨ZA, zc, rfl, hzc⟩ := hr.form
  clear hr
  go_enter Tryz.func46, Tryz.ntmps46
  go_upto_region 1 with fail
  obtain ⟨W, hW, g0, T0⟩ := three_new w (.int .u8 (a : Nat)) (.int .u8 (b : Nat)) (.slice ZA zs.length zc) 37
  rw [hW]
  clear hW
  have T1 := Lib.hid T0
  have hw0 := T0.lt
  clear T0
  go_cut [4, 5] (fun s t wx => ∃ (p : Nat) (A : Option Addr) (cap : Nat), s = .pointer (some ⟨p, 0, none⟩) ∧ t = .bool (!decide (n = 0)) ∧ W.heap.size ≤ p ∧ Hid (LayH wx (.agg #[.int .i64 (n : Nat), .slice A (l.length / 2) cap]) c) ∧ Hid (LayVar wx p (.int .i64 (n : Nat)) (.slice A (l.length / 2) cap)) ∧ Hid (Grew W wx))
  case first =>
    refine wp_thenU (HLOOK _ _ W T1 _ _ (fun p x y wx t9 t10 t11 t12 t13 t14 t15 t16 t17 t18 hWp hlay hvar hg => ?_))
    obtain ⟨A, cap, e, _⟩ := HAT _ _ hlay
    simp only [Value.agg.injEq, Array.mk.injEq, List.cons.injEq, and_true] at e
    obtain ⟨rfl, rfl⟩ := e
    go_wp2_with fail
    go_meet
    case rel => exact ⟨p, A, cap, rfl, rfl, hWp, Lib.hid hlay, Lib.hid hvar, Lib.hid hg⟩
  case rest =>
    obtain ⟨wX, hwX⟩ : ∃ x, x = wc := ⟨_, rfl⟩
    subst hwX
    obtain ⟨p, A, cap, rfl, rfl, hWp, hlay, hvar, hg⟩ := hcut
    have G1 := Lib.hid (g0.trans hg.out)
    obtain ⟨_, v0, v1⟩ := hvar.out
    obtain ⟨_, s0, s1, s2, _, _, _⟩ := T1.out.grew hg.out
    by_cases hn0 : n = 0
    · have HP0 : Hid (r = ([], 7)) := Lib.hid (by rw [HP.out, if_pos hn0])
      subst hn0
      go_wp2_with fail
      go_ret2
      rw [HP0.out]
      exact payT_no G1.out
    · by_cases hne : 2 * zs.length ≠ l.length
      · have n1 : ¬ (zs.length : Int) = (l.length : Int) / 2 := by omega
        go_wp2_with fail
        go_ret2
        rw [HP.out, if_neg hn0, if_pos hne]
        exact payT_no G1.out
      · have HP' : Hid (r = if fitsTo l zs zs.length = true then (payTo l zs n zs.length, 0) else ([], 2)) := Lib.hid (by rw [HP.out, if_neg hn0, if_neg hne])
        have hK2 : l.length / 2 = zs.length := by omega
        have h2K : 2 * zs.length = l.length := by omega
        rw [hK2] at v1 hlay hvar
        go_upto_region 7 with (refine wpList_makeN _ rfl _ _ 25 rfl wX.heap.size 5 .u8 1 Tryz.underlying25 infoU8 n rfl rfl (by omega) (by unfold maxLen; omega) (Nat.le_refl _) ?_; intro V2 hO0 gV2)
        have HLC := (HAT _ _ hlay.out)
        obtain ⟨A', cap', eA, HLC⟩ := HLC
        simp only [Value.agg.injEq, Array.mk.injEq, List.cons.injEq, and_true, Value.slice.injEq] at eA
        obtain ⟨-, rfl, -, rfl⟩ := eA
        have HLY := Lib.hid HLC
        have HFI := Lib.hid HF
        have HOK := Lib.hid hok
        have hpw : p < wX.heap.size := hvar.out.lt
        have hvl : wX.heap.size < V2.heap.size := (hO0.lt _ rfl).2
        have hz' := Lib.hid hz
        have F0 : Hid (Far (fun x => x = wX.heap.size) V2 V2) := Lib.hid (Far.refl _ _)
        obtain ⟨_, v0, v1⟩ := hvar.out.grew gV2
        have hw1 : w.heap.size < wX.heap.size := Nat.lt_of_lt_of_le hw0 hg.out.size
        have GA := Lib.hid (G1.out.trans gV2)
        clear HLC HF hok hz HP HLOOK HNO HAT HLay s0 s1 s2 hK2 hne
        go_wp2_with fail
        go_loopg [34] (zs.length) (fun kx s wr => ∃ k : Nat, k + kx = zs.length ∧ s = .int .i64 k ∧ Hid (Own wX.heap.size 5 .u8 wr (.slice (some ⟨wX.heap.size, 0, none⟩) n n) (payTo l zs n k)) ∧ Hid (fitsTo l zs k = true) ∧ Hid (Far (fun x => x = wX.heap.size) V2 wr))
        case atStart => exact ⟨0, by omega, rfl, Lib.hid (by unfold payTo; exact hO0), Lib.hid rfl, F0⟩
        case round =>
          obtain ⟨k, hk, rfl, hO, hft, hFa⟩ := hrel
          by_cases hlt : k < zs.length
          · obtain ⟨q, m, neg, e1, e2, hm, hpm⟩ := HFI.out k (by omega)
            obtain ⟨fb, rfl, hfb, c0, c1, c2⟩ := HLY.out k (by omega)
            rw [e1] at c0
            rw [e2, neg_abs] at c1
            rw [e2, neg_lt m neg hm.1] at c2
            have HFR := Lib.hid (fits_read HOK.out (zs := zs) (by omega) e1 e2)
            have hnx : Hid (putLE (payTo l zs n k) q (zi zs k) m = payTo l zs n (k + 1)) := Lib.hid (by rw [payTo, e1, e2, neg_abs]; rfl)
            have hpl := payTo_length l zs n k
            have hwr : wX.heap.size < wr.heap.size := (hO.out.lt _ rfl).2
            have hpl1 := payTo_length l zs n (k + 1)
            have hby1 := Lib.hid (payTo_bytes HOK.out (zs := zs) (k + 1) (by omega))
            have hfn := Lib.hid (show fitsTo l zs (k + 1) = (fitsTo l zs k && fitsZ (zi zs k) (zi l (2 * k + 1))) from rfl)
            rw [hft.out, Bool.true_and] at hfn
            obtain ⟨zb, zo, rfl, hzb, hzx⟩ := HR.out.at_ (i := k) hlt
            have hzk := hz'.out k
            have HWR := fun w' (g : Grew wr w') => Lib.hid (ubp_write wX.heap.size wX.heap.size n (payTo l zs n k) q m neg (zi zs k) w' (by have := hO.out.grew g; rwa [hpl]) (by omega) hm (by omega) hzk)
            rw [hnx.out, hpl] at HWR
            have HRD := fun w' v' (h : Row .u8 w' v' (payTo l zs n (k + 1))) => Lib.hid (ubp_read v' (payTo l zs n (k + 1)) q m neg w' h hby1.out (by omega) hm (by omega))
            have y0 := (hFa.out.cell (p := ⟨fb, k * 3, none⟩) (Nat.lt_trans hfb (by omega)) (by show ¬ fb = _; omega)).trans ((gV2.cell (p := ⟨fb, k * 3, none⟩) hfb).trans c0)
            have y1 := (hFa.out.cell (p := ⟨fb, k * 3 + 1, none⟩) (Nat.lt_trans hfb (by omega)) (by show ¬ fb = _; omega)).trans ((gV2.cell (p := ⟨fb, k * 3 + 1, none⟩) hfb).trans c1)
            have y2 := (hFa.out.cell (p := ⟨fb, k * 3 + 2, none⟩) (Nat.lt_trans hfb (by omega)) (by show ¬ fb = _; omega)).trans ((gV2.cell (p := ⟨fb, k * 3 + 2, none⟩) hfb).trans c2)
            have hzr := (hFa.out.cell (p := ⟨zb, zo + k, none⟩) (Nat.lt_of_lt_of_le hzb GA.out.size) (by show ¬ zb = _; omega)).trans ((GA.out.cell (p := ⟨zb, zo + k, none⟩) hzb).trans hzx)
            have TA := (T1.out.grew (hg.out.trans gV2)).far hFa.out (by show ¬ w.heap.size = _; omega)
            clear c0 c1 c2 hzx hzk
            generalize zi zs k = z at *
            go_upto_region 10 with fail
            obtain ⟨W3, hW3, g3, T3⟩ := three_new wr (.int .i64 (q : Nat)) (.int .i64 (m : Nat)) (.bool neg) 111
            rw [hW3]
            have hzb3 : zb < wr.heap.size := World.block_lt_of_cell? wr ⟨zb, zo + k, none⟩ hzr
            have hz3 := (g3.cell (p := ⟨zb, zo + k, none⟩) hzb3).trans hzr
            have T3' := Lib.hid T3
            have TA3 := Lib.hid (TA.grew g3)
            have hzbn : ¬ zb = wX.heap.size := by have := hzb; omega
            clear hW3 y0 y1 y2 hzr TA
            obtain ⟨_, x0, x1, x2, _, _, _⟩ := T3
            obtain ⟨_, _, _, s2, _, _, _⟩ := TA3.out
            go_cut [39] (fun s wx => Hid (Own wX.heap.size 5 .u8 wx (.slice (some ⟨wX.heap.size, 0, none⟩) n n) (payTo l zs n (k + 1))) ∧ Hid (Far (fun x => x = wX.heap.size) W3 wx))
            case first =>
              go_region_law (refine step_calls (f := 66) (args := #[.agg #[.int .i64 (q : Nat), .int .i64 (m : Nat), .bool neg], .slice (some ⟨wX.heap.size, 0, none⟩) n n, .int .i64 z]) rfl (by simp [go_sem]; done) ((HWR _ (Grew.trans g3 (by repeat (first | (with_reducible exact Grew.refl _) | (with_reducible refine Grew.drew ?_))))).out.mono ?_); rintro e w5 ⟨rfl, O5, F5⟩; refine ⟨_, rfl, ?_⟩)
              all_goals
                replace F5 := Far.trans (Far.of_grew (F := fun x => x = wX.heap.size) (Grew.refl W3).drew) F5
                clear HWR HRD HFR x0 x1 x2 s2 hz3
                go_wp2_with fail
                go_meet
                case rel => exact ⟨Lib.hid O5, Lib.hid F5⟩
            case rest =>
              obtain ⟨O5, F5⟩ := hcut
              obtain ⟨_, x0, x1, x2, _, _, _⟩ := T3'.out.far F5.out (by show ¬ _ = _; omega)
              have TA5 := TA3.out.far F5.out (by show ¬ _ = _; omega)
              have TA6 := Lib.hid TA5
              obtain ⟨_, _, _, s2, _, _, _⟩ := TA5
              have hz5 := (F5.out.cell (p := ⟨zb, zo + k, none⟩) (Nat.lt_of_lt_of_le hzb3 g3.size) hzbn).trans hz3
              have hR5 := Lib.hid O5.out.row
              have HR6 := fun w' (g : Grew wc w') => HRD w' _ (hR5.out.grew g)
              have hzb5 : zb < wc.heap.size := World.block_lt_of_cell? wc ⟨zb, zo + k, none⟩ hz5
              clear hz3 HWR HRD hR5
              cases hfit : fitsZ z (zi l (2 * k + 1)) with
              | true =>
                have hy := (HFR.out.2 hfit)
                rw [hy] at HR6
                rw [hfit] at hfn
                clear hy HFR
                go_wp2_with fail
                go_cut [55] (fun s wx => s = .bool false ∧ Hid (Grew wc wx))
                case first =>
                  go_region_law (refine step_calls (f := 67) (args := #[.agg #[.int .i64 (q : Nat), .int .i64 (m : Nat), .bool neg], .slice (some ⟨wX.heap.size, 0, none⟩) n n]) rfl (by simp [go_sem]; done) ((HR6 _ (by repeat (first | (with_reducible exact Grew.refl _) | (with_reducible refine Grew.drew ?_)))).out.mono ?_); rintro e w6 ⟨rfl, g6⟩; refine ⟨_, rfl, ?_⟩; replace g6 := Grew.trans (a := wc) (by repeat (first | (with_reducible exact Grew.refl _) | (with_reducible refine Grew.drew ?_))) g6; have s6 := (TA6.out.grew g6).c2; have z6 := (g6.cell (p := ⟨zb, zo + k, none⟩) hzb5).trans hz5)
                  all_goals
                    clear HR6 x0 x1 x2 s2 hz5
                    go_wp2_with fail
                    go_meet
                    case rel => exact ⟨by simp, Lib.hid (by first | assumption | exact (by assumption : Grew _ _).drew)⟩
                case rest =>
                  obtain ⟨rfl, g7⟩ := hcut
                  have O7 := Lib.hid (O5.out.grew g7.out)
                  have F7 := Lib.hid ((hFa.out.trans (Far.of_grew g3)).trans (F5.out.trans (Far.of_grew g7.out)))
                  clear HR6 x0 x1 x2 s2 hz5
                  go_wp2_with fail
                  go_roundg (zs.length - (k + 1))
                  case measure => omega
                  case rel => exact ⟨k + 1, by omega, by go_num, O7, hfn, F7⟩
              | false =>
                have hy : ¬ getZ (payTo l zs n (k + 1)) q (if neg then -(m : Int) else (m : Int)) = z := fun e => by have := HFR.out.1 e; rw [hfit] at this; cases this
                rw [hfit] at hfn
                have HPE : Hid (r = ([], 2)) := Lib.hid (by rw [HP'.out, if_neg (by rw [fits_no hfn hlt]; decide)])
                generalize getZ (payTo l zs n (k + 1)) q (if neg then -(m : Int) else (m : Int)) = y at *
                clear HFR HP'
                go_wp2_with fail
                go_cut [55] (fun s wx => s = .bool true ∧ Hid (Grew wc wx))
                case first =>
                  go_region_law (refine step_calls (f := 67) (args := #[.agg #[.int .i64 (q : Nat), .int .i64 (m : Nat), .bool neg], .slice (some ⟨wX.heap.size, 0, none⟩) n n]) rfl (by simp [go_sem]; done) ((HR6 _ (by repeat (first | (with_reducible exact Grew.refl _) | (with_reducible refine Grew.drew ?_)))).out.mono ?_); rintro e w6 ⟨rfl, g6⟩; refine ⟨_, rfl, ?_⟩; replace g6 := Grew.trans (a := wc) (by repeat (first | (with_reducible exact Grew.refl _) | (with_reducible refine Grew.drew ?_))) g6; have s6 := (TA6.out.grew g6).c2; have z6 := (g6.cell (p := ⟨zb, zo + k, none⟩) hzb5).trans hz5)
                  all_goals
                    clear HR6 x0 x1 x2 s2 hz5
                    go_wp2_with fail
                    go_meet
                    case rel => exact ⟨by simp [hy], Lib.hid (by first | assumption | exact (by assumption : Grew _ _).drew)⟩
                case rest =>
                  obtain ⟨rfl, g7⟩ := hcut
                  have F7 := Lib.hid ((hFa.out.trans (Far.of_grew g3)).trans (F5.out.trans (Far.of_grew g7.out)))
                  have GR := Lib.hid (F7.out.grew GA.out (fun x h => by have : x = wX.heap.size := h; omega))
                  clear HR6 x0 x1 x2 s2 hz5
                  go_wp2_with fail
                  go_ret2
                  rw [HPE.out]
                  exact payT_no GR.out
          · obtain rfl : k = zs.length := by omega
            have HPO : Hid (r = (payTo l zs n zs.length, 0)) := Lib.hid (by rw [HP'.out, if_pos hft.out])
            have OL := Lib.hid hO.out.lt
            have OR := Lib.hid hO.out.row
            have GR := Lib.hid (hFa.out.grew GA.out (fun x h => by have : x = wX.heap.size := h; omega))
            clear hO hFa HP' hft HFI HLY
            go_wp2_with fail
            go_ret2
            rw [HPO.out]
            exact ⟨_, rfl, OR.out, fun _ x hx => by have := OL.out x hx; omega, GR.out⟩
-- PAY]
end Go.Proofs.YtcdmbnbanopioaaGreatDoor

namespace Go.Proofs.YtcdmbnbanopioaaGreatDoor
open Go.RowKit
set_option linter.unusedVariables false

theorem own_litU {B : Nat} (w : World) (E : TypeId) (cs : Array Value) (ns : List Nat) (n : Nat) (hB : B ≤ w.heap.size) (hc : cs = (cellsOf .u8 ns).toArray) (hn : n = ns.length) (hm : ns.length ≤ maxLen) : Own B E .u8 (w.alloc (.cells cs E)) (.slice (some ⟨w.heap.size, 0, none⟩) n n) ns := by
  subst hc hn
  exact Own.lit w .u8 E B hB ns hm
theorem Grew.pushN {w0 w w' : World} {B : Nat} {E : TypeId} {k : IntKind} {v : Value} {ns : List Nat} (g : Grew w0 w) (h : Own B E k w v ns) (hB : w0.heap.size ≤ B) (hg : w.grownBy w' v.ownBlock) : Grew w0 w' :=
  Below.grown g hg g.size (fun b hb => Nat.le_trans hB (World.ownsRow.lt h b hb).1)
theorem ubxPay_len (c : Nat) (zs : List Int) : (ubxPay c zs).1.length ≤ 92 ∧ Bytes (ubxPay c zs).1 := by
  have hok := ubx_layOk c
  have hev := hok.even
  unfold ubxPay
  split
  · exact ⟨by simp, Bytes.of_mem (by simp)⟩
  · split
    · exact ⟨by simp, Bytes.of_mem (by simp)⟩
    · rename_i h1 h2
      split
      · exact ⟨by show (payTo _ _ _ _).length ≤ 92; rw [payTo_length]; exact hev.2.2, payTo_bytes hok _ (by omega)⟩
      · exact ⟨by simp, Bytes.of_mem (by simp)⟩
theorem ubxPay_err (c : Nat) (zs : List Int) : (ubxPay c zs).2 = 0 ∨ (ubxPay c zs).2 = 7 ∨ (ubxPay c zs).2 = 2 := by
  unfold ubxPay
  (repeat' split) <;> simp
theorem Bytes.app {a b : List Nat} (ha : Bytes a) (hb : Bytes b) : Bytes (a ++ b) := fun i => by
  by_cases h : i < a.length
  · rw [wd_append_left h]; exact ha i
  · obtain ⟨j, rfl⟩ : ∃ j, i = a.length + j := ⟨i - a.length, by omega⟩
    rw [wd_append_right]; exact hb j
theorem ubx_body_bytes {c : Nat} {L : List Nat} (hc : c < 65536) (hl : L.length ≤ 92) (hB : Bytes L) : Bytes (ubxBody c L) :=
  Bytes.app (Bytes.of_mem (fun x hx => by simp at hx; omega)) hB
-- [ENC
set_option maxRecDepth 100000 in
set_option maxHeartbeats 4000000 in
theorem ubp_Encode (a b : Nat) (v : Value) (zs : List Int) (w : World) (ha : a < 256) (hb : b < 256) (hr : RowZ .i64 w v zs) (hz : In64 zs) (hl : zs.length ≤ 100000) :
    Calls Tryz.prog 23 #[.agg #[.int .u8 (a : Nat), .int .u8 (b : Nat), v]] w (PayT (ubxEnc (a * 256 + b) zs) w) := by
  have HPAY := fun w' (g : Grew w w') => ubp_Payload a b v zs w' ha hb (hr.grew g) hz hl
  have henc : ubxEnc (a * 256 + b) zs = if (ubxPay (a * 256 + b) zs).2 = 0 then (ubxFrame (a * 256 + b) (ubxPay (a * 256 + b) zs).1, 0) else ([], (ubxPay (a * 256 + b) zs).2) := rfl
  obtain ⟨hL, hBL⟩ := ubxPay_len (a * 256 + b) zs
  have hbb := ubx_body_bytes (c := a * 256 + b) (by omega) hL hBL
  have her := ubxPay_err (a * 256 + b) zs
  generalize ubxEnc (a * 256 + b) zs = r at *
  unfold PayT at HPAY
  generalize (ubxPay (a * 256 + b) zs).2 = er at *
  generalize (ubxPay (a * 256 + b) zs).1 = L at *
  replace HPAY := fun w' g => Lib.hid (HPAY w' g)
  obtain ⟨ZA, zc, rfl, hzc⟩ := hr.form
  by_cases he : er = 0
  · subst he
    rw [if_pos rfl] at henc
    have hfr : ubxFrame (a * 256 + b) L = [181, 98, a, b, L.length % 256, L.length / 256] ++ L ++ [fletA (ubxBody (a * 256 + b) L), fletB (ubxBody (a * 256 + b) L)] := by
      unfold ubxFrame
      have : ubxBody (a * 256 + b) L = [a, b, L.length % 256, L.length / 256] ++ L := by
        unfold ubxBody
        rw [show (a * 256 + b) / 256 = a by omega, show (a * 256 + b) % 256 = b by omega]
      rw [this]
      rfl
    have hdr : ([181, 98, a, b, L.length % 256, L.length / 256] ++ L).drop 2 = ubxBody (a * 256 + b) L := by
      unfold ubxBody
      rw [show (a * 256 + b) / 256 = a by omega, show (a * 256 + b) % 256 = b by omega]
      rfl
    have hbl : (ubxBody (a * 256 + b) L).length ≤ 5000 := by unfold ubxBody; simp; omega
    have HFL := fun v' w' (h : Row .u8 w' v' (ubxBody (a * 256 + b) L)) => Lib.hid (sums_Fletcher v' _ w' h hbb hbl)
    have HE := Lib.hid (henc.trans (by rw [hfr]))
    have HDR := Lib.hid hdr
    clear henc hfr hdr hbl hbb
    generalize ubxBody (a * 256 + b) L = u at *
    have m1 : ((L.length : Int)) % 256 = ((L.length % 256 : Nat) : Int) := by omega
    have m2 : (L.length : Int) / 256 = ((L.length / 256 : Nat) : Int) := by omega
    have m3 : IntKind.u8.wrap (L.length : Int) = ((L.length % 256 : Nat) : Int) := by rw [wrap_u8]; omega
    have m4 : ((L.length / 256 : Nat) : Int) % 256 = ((L.length / 256 : Nat) : Int) := by omega
    have m5 : IntKind.u8.wrap ((L.length / 256 : Nat) : Int) = ((L.length / 256 : Nat) : Int) := by rw [wrap_u8]; omega
    go_enter Tryz.func23, Tryz.ntmps23
    go_upto_region 1 with fail
    obtain ⟨W, hW, g0, T0⟩ := three_new w (.int .u8 (a : Nat)) (.int .u8 (b : Nat)) (.slice ZA zs.length zc) 37
    rw [hW]
    clear hW
    have T1 := Lib.hid T0
    obtain ⟨_, s0, s1, s2, _, _, _⟩ := T0
    go_upto_region 4 with (go_at_call 46; refine (HPAY _ g0).out.mono ?_; rintro e w1 ⟨pv, rfl, hrow, hpo, g1⟩)
    obtain ⟨PA, pc, rfl, hpc⟩ := hrow.form
    obtain ⟨_, s0, s1, s2, _, _, _⟩ := T1.out.grew g1
    have hx1 : L.length % 256 < 256 := by omega
    have hx2 : L.length / 256 < 256 := by omega
    have HO := fun w' => own_litU (B := w1.heap.size) w' 5 #[.int .u8 181, .int .u8 98, .int .u8 (a : Nat), .int .u8 (b : Nat), .int .u8 (L.length % 256 : Nat), .int .u8 (L.length / 256 : Nat)] [181, 98, a, b, L.length % 256, L.length / 256] 6
    generalize L.length % 256 = M1 at *
    generalize L.length / 256 = M2 at *
    have HO1 := HO w1 (Nat.le_refl _) rfl rfl (by simp [maxLen])
    have HR1 := hrow.grew ((Grew.refl w1).alloc (.cells #[.int .u8 181, .int .u8 98, .int .u8 (a : Nat), .int .u8 (b : Nat), .int .u8 (M1 : Nat), .int .u8 (M2 : Nat)] 5))
    clear HO
    go_upto_region 6 with (refine wpList_joinN _ rfl _ _ 25 rfl w1.heap.size 5 .u8 1 Tryz.underlying25 infoU8 (.slice (some ⟨w1.heap.size, 0, none⟩) 6 6) _ rfl HO1 _ L rfl HR1 (by simp only [List.length_cons, List.length_nil]; omega) (by decide) (by simp) ?_; intro v2 w2 hown hgrow hnil)
    have G2 : Grew w1 w2 := Grew.pushN ((Grew.refl w1).alloc _) HO1 (Nat.le_refl _) hgrow
    obtain ⟨g2, c2, rfl, hg2, hl2, hm2⟩ := hown.head (hnil (by simp))
    obtain ⟨N, hN⟩ : ∃ N, ([181, 98, a, b, M1, M2] ++ L).length = N := ⟨_, rfl⟩
    have hN6 : N = 6 + L.length := by rw [← hN, List.length_append]; simp only [List.length_cons, List.length_nil]
    have hcut := hown.row
    rw [hN] at hcut hm2 hown
    have hcut := hcut.cut 2 (by rw [hN]; omega)
    rw [HDR.out, if_neg (by omega : ¬ c2 = 2), Nat.zero_add] at hcut
    rw [hN]
    have HFL2 := HFL _ _ hcut
    have HL2 := fun w' => (own_litU (B := 0) w' 5 #[.int .u8 (fletA u : Nat), .int .u8 (fletB u : Nat)] [fletA u, fletB u] 2 (Nat.zero_le _) rfl rfl (by simp [maxLen])).row
    generalize fletA u = fa at *
    generalize fletB u = fb at *
    have q1 : 2 ≤ N := by omega
    have q2 : 2 ≤ c2 := by omega
    have q3 : ¬ c2 = 2 := by omega
    have q4 : (2 : Int) ≤ N := by omega
    have HOW := Lib.hid hown
    have HNN := Lib.hid hN
    have HN6 := Lib.hid hN6
    clear hN6 hown hcut HFL HO1 HR1 hgrow hnil hN m1 m2 m3 m4 m5
    go_upto_region 7 with (go_at_call 47; refine HFL2.out.mono ?_; rintro e w3 ⟨rfl, g3⟩)
    have hown := HOW.out.grew g3
    have HL3 := HL2 w3
    have hlen : (([181, 98, a, b, M1, M2] ++ L).length + 2) * 1 ≤ 140737488355328 := by rw [HNN.out, HN6.out]; omega
    go_wp2_with (refine wpList_joinN _ rfl _ _ 25 rfl w1.heap.size 5 .u8 1 Tryz.underlying25 infoU8 (.slice (some ⟨g2, 0, none⟩) N c2) _ rfl (hown.alloc _) _ [fa, fb] rfl HL3 hlen (by decide) (by have := (G2.trans g3).size; simp; omega) ?_; intro v4 w4 hown4 hgrow4 hnil4)
    go_ret2
    rw [HE.out]
    exact ⟨v4, rfl, hown4.row, fun _ x hx => by have h1 := hown4.lt x hx; have h2 := (g0.trans g1).size; omega, (g0.trans g1).trans (Grew.pushN ((G2.trans g3).alloc _) (hown.alloc _) (Nat.le_refl _) hgrow4)⟩
  · have henc' := Lib.hid (henc.trans (if_neg he))
    clear henc
    have he0 : ¬ (er : Int) = 0 := by omega
    go_enter Tryz.func23, Tryz.ntmps23
    go_upto_region 1 with fail
    obtain ⟨W, hW, g0, T0⟩ := three_new w (.int .u8 (a : Nat)) (.int .u8 (b : Nat)) (.slice ZA zs.length zc) 37
    rw [hW]
    clear hW
    obtain ⟨_, s0, s1, s2, _, _, _⟩ := T0
    go_wp2_with (go_at_call 46; refine (HPAY _ g0).out.mono ?_; rintro e w1 ⟨pv, rfl, hrow, hpo, g1⟩)
    go_ret2
    rw [henc'.out]
    exact payT_no (g0.trans g1)
-- ENC]
end Go.Proofs.YtcdmbnbanopioaaGreatDoor

namespace Go.Proofs.YtcdmbnbanopioaaGreatDoor
open Go.RowKit
set_option linter.unusedVariables false

/-- Whole numbers of 64 bits. -/
def I64 (zs : List Int) : Prop := ∀ i, -9223372036854775808 ≤ zi zs i ∧ zi zs i ≤ 9223372036854775807
theorem i64_lit {zs : List Int} (h : zs.all (fun z => decide (-9223372036854775808 ≤ z ∧ z ≤ 9223372036854775807)) = true) : I64 zs := fun i => by
  by_cases hi : i < zs.length
  · have := List.all_eq_true.1 h zs[i] (List.getElem_mem hi)
    rw [zi_lt hi]
    simpa using this
  · unfold zi
    rw [List.getD_eq_getElem?_getD, List.getElem?_eq_none (by omega)]
    simp
theorem RowZ.ofY {w : World} {x : Addr} {len cap : Nat} {zs : List Int} (hl : len ≤ cap) (hz : zs.length = cap) (hcell : ∀ i, i < zs.length → w.cell? (x.add i) = some (.int .i64 (zs.getD i 0))) : RowZ .i64 w (.slice (some x) (zs.take len).length cap) (zs.take len) := by
  have hlen : (zs.take len).length = len := by simp; omega
  refine ⟨some x, cap, rfl, by omega, fun hp => ?_⟩
  rw [hlen] at hp
  have hc0 := hcell 0 (by omega)
  obtain ⟨b, o, spot⟩ := x
  have hs : spot = none := by simpa [Addr.add] using World.cell?_spot hc0
  subst hs
  refine ⟨b, o, rfl, World.block_lt_of_cell? w ⟨b, o, none⟩ (by simpa [Addr.add] using hc0), fun i hi => ?_⟩
  rw [hlen] at hi
  have := hcell i (by omega)
  rw [show (⟨b, o, none⟩ : Addr).add i = ⟨b, o + i, none⟩ by unfold Addr.add; split <;> simp_all] at this
  rw [this]
  unfold zi
  rw [List.getD_eq_getElem?_getD, List.getD_eq_getElem?_getD, List.getElem?_take, if_pos hi]
theorem RowZ.far3 {F : Nat → Prop} {k : IntKind} {w w' : World} {v : Value} {zs : List Int} (h : RowZ k w v zs) (g : Far F w w') (hF : 0 < zs.length → ∀ b, v.ownBlock = some b → ¬ F b) : RowZ k w' v zs := by
  obtain ⟨A, c, rfl, hc, hr⟩ := h
  refine ⟨A, c, rfl, hc, fun hn => ?_⟩
  obtain ⟨b, o, rfl, hb, hcell⟩ := hr hn
  exact ⟨b, o, rfl, Nat.lt_of_lt_of_le hb g.size, fun i hi => (g.cell (p := ⟨b, o + i, none⟩) hb (hF hn b rfl)).trans (hcell i hi)⟩
section
variable {P : Program} (w : World)
/-- 'append(out, in...)' of integers, the row the call's own. -/
theorem wpList_joinY {ops : Array Oper} {rest : List Oper} {o : Oper} {a : Act} {Q : Exit → Act → World → Prop} (hgd : o.guard = none) (s x : Operand) (t : TypeId)
    (ho : o.op = .call { callee := .builtin .append, args := #[s, x], argTypes := #[t, t] })
    (base : Nat) (E : TypeId) (k : IntKind) (bytes : Nat) (ht : P.underlying t = some (.slice E)) (hi : (P.info? E).map (fun i => (i.zero, i.size, i.bytes)) = some (some (.int k 0), 1, bytes))
    (v : Value) (ns : List Int) (hs : a.eval s = v) (hown : OwnZ base E k w v ns)
    (u : Value) (ms : List Int) (hx : a.eval x = u) (hrow : RowZ k w u ms)
    (hlen : (ns.length + ms.length) * bytes ≤ 140737488355328) (hb : 0 < bytes) (hbase : base ≤ w.heap.size)
    (h : ∀ v' w', OwnZ base E k w' v' (ns ++ ms) → w.grownBy w' v.ownBlock → wpList P ops Q rest (a.put o.dst v') w') : wpList P ops Q (o :: rest) a w := by
  refine wpList_plain hgd fun K hK => ?_
  obtain ⟨i, hi0, hz0, hz1, hz2⟩ := info_parts hi
  obtain ⟨A, c, rfl, hc, hr⟩ := hrow
  have hmax : ns.length + ms.length ≤ maxLen := by
    have := Nat.le_mul_of_pos_right (ns.length + ms.length) hb
    unfold maxLen; omega
  have he : ∀ v' w', w'.ownsRow base E 1 v' (ns.length + ms.length) (cellsZ k ns ++ cellsZ k ms) → OwnZ base E k w' v' (ns ++ ms) := fun v' w' h1 => by
    unfold OwnZ
    simpa [cellsZ] using h1
  rcases A with _ | ad
  · have h0 : ms = [] := by
      rcases Nat.eq_zero_or_pos ms.length with h | h
      · exact List.eq_nil_of_length_eq_zero h
      · obtain ⟨b, o, e, _⟩ := hr h; cases e
    subst h0
    have hrun := run_join_nil (P := P) w base t o.type E i 1 ht hi0 v ns.length (cellsZ k ns) hown c
    unfold Oper.wp
    have hx' : a.eval x = .slice none 0 c := hx
    simp [execOp, ho, resolve, invoke, builtin, hs, hx', hrun, Result.andThen]
    exact hK _ _ (h v w (by rw [List.append_nil]; exact hown) (World.grownBy.refl w _))
  · refine wp_append_own w s x t ho base E i (.int k 0) 1 bytes ht hi0 hz0 hz1 hz2 rfl (by decide) v ns.length (cellsZ k ns) hs hown ad ms.length c (cellsZ k ms) hx (by simp [cellsZ]) ?_ ?_ hmax hlen hbase (fun v' w' h1 h2 h3 => hK _ _ (h v' w' (he v' w' h1) h2))
    · intro j z hj
      have hj' : j < ms.length := by have := (List.getElem?_eq_some_iff.1 hj).1; simpa [cellsZ] using this
      obtain ⟨b, o, e, hbl, hcell⟩ := hr (by omega)
      cases e
      rw [show (⟨b, o, none⟩ : Addr).add j = ⟨b, o + j, none⟩ by unfold Addr.add; split <;> simp_all, hcell j hj', ← hj]
      simp [cellsZ, zi, hj']
    · intro z hz
      simp only [cellsZ, List.mem_map] at hz
      obtain ⟨n, _, rfl⟩ := hz
      rfl
end
theorem own_litY {B : Nat} (w : World) (k : IntKind) (E : TypeId) (hB : B ≤ w.heap.size) : OwnZ B E k (w.alloc (.cells #[] E)) (.slice (some ⟨w.heap.size, 0, none⟩) 0 0) [] :=
  ⟨by simp [cellsZ], .inr ⟨_, 0, _, rfl, hB, heap_alloc_new w _, Nat.le_refl _, Nat.zero_le _, by simp, by simp [cellsZ]⟩⟩
theorem Grew.pushW {w0 w w' : World} {B : Nat} {E : TypeId} {k : IntKind} {v : Value} {ns : List Int} (g : Grew w0 w) (h : OwnZ B E k w v ns) (hB : w0.heap.size ≤ B) (hg : w.grownBy w' v.ownBlock) : Grew w0 w' :=
  Below.grown g hg g.size (fun b hb => Nat.le_trans hB (World.ownsRow.lt h b hb).1)
theorem own_litN {B : Nat} (w : World) (E : TypeId) (cs : Array Value) (ns : List Nat) (n : Nat) (hB : B ≤ w.heap.size) (hc : cs = (cellsOf .u8 ns).toArray) (hn : n = ns.length) (hm : ns.length ≤ maxLen) : Own B E .u8 (w.alloc (.cells cs E)) (.slice (some ⟨w.heap.size, 0, none⟩) n n) ns := by
  subst hc hn
  exact Own.lit w .u8 E B hB ns hm
theorem Grew.pushV {w0 w w' : World} {B : Nat} {E : TypeId} {k : IntKind} {v : Value} {ns : List Nat} (g : Grew w0 w) (h : Own B E k w v ns) (hB : w0.heap.size ≤ B) (hg : w.grownBy w' v.ownBlock) : Grew w0 w' :=
  Below.grown g hg g.size (fun b hb => Nat.le_trans hB (World.ownsRow.lt h b hb).1)
end Go.Proofs.YtcdmbnbanopioaaGreatDoor

namespace Go.Proofs.YtcdmbnbanopioaaGreatDoor
open Go.RowKit
set_option linter.unusedVariables false

theorem fits_readS {a : Nat} {l zs : List Int} {n k p m : Nat} {neg : Bool} (hok : BLayOk l n) (hk : 2 * k + 1 < l.length) (e1 : zi l (2 * k) = (p : Nat)) (e2 : zi l (2 * k + 1) = (if neg then -(m : Int) else (m : Int))) :
    getB (bpayTo a l zs n (k + 1)) p (if neg then -(m : Int) else (m : Int)) = zi zs k ↔ fitsZ (zi zs k) (zi l (2 * k + 1)) = true := by
  have h := bpayTo_num (m := a) hok k (k + 1) (by omega) (by omega) (zs := zs)
  rw [e1, e2, Int.toNat_natCast] at h
  rw [e2, getB_sign]
  exact sign_mod _ _ _ (by have := (hok.size k hk).1; rw [e2] at this; exact this) h
-- [PAY
set_option maxRecDepth 100000 in
set_option maxHeartbeats 8000000 in
theorem srp_Payload (a : Nat) (v : Value) (zs : List Int) (w : World) (ha : a < 256) (hr : RowZ .i64 w v zs) (hz : I64 zs) (hl : zs.length ≤ 100000) :
    Calls Tryz.prog 48 #[.agg #[.int .u8 (a : Nat), v]] w (PayR (srfPay a zs) w) := by
  have hok := srf_layOk a
  have HF := srf_field a
  have HNO := fun h => slay_no (c := a) h
  have HAT := fun w v (h : SLayH w v a) => h.at_
  have hpay : srfPay a zs = if (srfLay a).1 = 0 then ([], 7) else if 2 * zs.length ≠ (srfLay a).2.length then ([], 2) else if fitsTo (srfLay a).2 zs zs.length = true then (bpayTo a (srfLay a).2 zs (srfLay a).1 zs.length, 0) else ([], 2) := rfl
  generalize srfPay a zs = r at *
  unfold SLayAt at HAT
  have HLay : ∀ w v, SLayH w v a → _ := HAT
  generalize hn : (srfLay a).1 = n at *
  generalize hll : (srfLay a).2 = l at *
  have hev := hok.even
  have HP := Lib.hid hpay
  clear hpay
  have HR := Lib.hid hr
  obtain ⟨ZA, zc, rfl, hzc⟩ := hr.form
  clear hr
  go_enter Tryz.func48, Tryz.ntmps48
  go_upto_region 1 with fail
  obtain ⟨W, hW, g0, T0⟩ := twoC_new w (.int .u8 (a : Nat)) (.slice ZA zs.length zc) 40
  rw [hW]
  clear hW
  have T1 := Lib.hid T0
  have hw0 := T0.lt
  clear T0
  go_cut [4, 5] (fun s t wx => ∃ (p : Nat) (A : Option Addr) (cap : Nat), s = .pointer (some ⟨p, 0, none⟩) ∧ t = .bool (!decide (n = 0)) ∧ W.heap.size ≤ p ∧ Hid (SLayH wx (.agg #[.int .i64 (n : Nat), .slice A (l.length / 2) cap]) a) ∧ Hid (TwoC wx p (.int .i64 (n : Nat)) (.slice A (l.length / 2) cap)) ∧ Hid (Grew W wx))
  case first =>
    refine wp_thenS (spay_look a w.heap.size W (.slice ZA zs.length zc) T1 ha _ _ _ _ _ _ _ _ _ _ _ _ _ _ _ _ _ _ _ _ _ _ _ _ _ _ _ _ _ _ _ _ _ _ _ _ _ _ _ _ _ _ _ _ _ _ _ _ _ _ _ _ _ _ _ _ _ _ _ (fun p x y wx s9 s10 s11 s12 s13 s14 s15 hWp hlay hvar hg => ?_))
    obtain ⟨A, cap, e, _⟩ := HAT _ _ hlay
    simp only [Value.agg.injEq, Array.mk.injEq, List.cons.injEq, and_true] at e
    obtain ⟨rfl, rfl⟩ := e
    go_wp2_with fail
    go_meet
    case rel => exact ⟨p, A, cap, rfl, by simp, hWp, Lib.hid hlay, Lib.hid hvar, Lib.hid hg⟩
  case rest =>
    obtain ⟨wX, hwX⟩ : ∃ x, x = wc := ⟨_, rfl⟩
    subst hwX
    obtain ⟨p, A, cap, rfl, rfl, hWp, hlay, hvar, hg⟩ := hcut
    have G1 := Lib.hid (g0.trans hg.out)
    obtain ⟨_, v0, v1, _, _⟩ := hvar.out
    obtain ⟨_, s0, s1, _, _⟩ := T1.out.grew hg.out
    by_cases hn0 : n = 0
    · have HP0 : Hid (r = ([], 7)) := Lib.hid (by rw [HP.out, if_pos hn0])
      subst hn0
      go_wp2_with fail
      go_ret2
      rw [HP0.out]
      exact payR_no G1.out
    · by_cases hne : 2 * zs.length ≠ l.length
      · have n1 : ¬ (zs.length : Int) = (l.length : Int) / 2 := by omega
        go_wp2_with fail
        go_ret2
        rw [HP.out, if_neg hn0, if_pos hne]
        exact payR_no G1.out
      · have HP' : Hid (r = if fitsTo l zs zs.length = true then (bpayTo a l zs n zs.length, 0) else ([], 2)) := Lib.hid (by rw [HP.out, if_neg hn0, if_neg hne])
        have hK2 : l.length / 2 = zs.length := by omega
        have h2K : 2 * zs.length = l.length := by omega
        rw [hK2] at v1 hlay hvar
        go_upto_region 7 with (refine wpList_makeS _ rfl _ _ 25 rfl wX.heap.size 5 .u8 1 Tryz.underlying25 infoU8 n rfl rfl (by omega) (by unfold maxLen; omega) (Nat.le_refl _) ?_; intro V2 hO0 gV2)
        have HLC := (HAT _ _ hlay.out)
        obtain ⟨A', cap', eA, HLC⟩ := HLC
        simp only [Value.agg.injEq, Array.mk.injEq, List.cons.injEq, and_true, Value.slice.injEq] at eA
        obtain ⟨-, rfl, -, rfl⟩ := eA
        have HLY := Lib.hid HLC
        have HFI := Lib.hid HF
        have HOK := Lib.hid hok
        have hpw : p < wX.heap.size := hvar.out.lt
        have hvl : wX.heap.size < V2.heap.size := (hO0.lt _ rfl).2
        have hz' := Lib.hid hz
        have hnp : 0 < n := by omega
        obtain ⟨hx0, hf0⟩ := hO0.cellS (by simp) 0 (by simpa using hnp)
        have hni : (0 : Int) < n := by omega
        obtain ⟨_, s0, s1, _, _⟩ := T1.out.grew (hg.out.trans gV2)
        go_upto_region 8 with fail
        have O1 := hO0.set 0 a (by simpa using hnp)
        have F1 := (Far.refl (fun x => x = wX.heap.size) V2).setCell (p := ⟨wX.heap.size, 0, none⟩) rfl (.int .u8 (a : Nat))
        generalize V2.setCell ⟨wX.heap.size, 0, none⟩ (.int .u8 (a : Nat)) = V3 at *
        have F0 : Hid (Far (fun x => x = wX.heap.size) V2 V3) := Lib.hid F1
        obtain ⟨_, v0, v1, _, _⟩ := (hvar.out.grew gV2).far F0.out (by show ¬ p = _; omega)
        clear hx0 hf0 s0 s1 F1 hO0
        have hw1 : w.heap.size < wX.heap.size := Nat.lt_of_lt_of_le hw0 hg.out.size
        have GA := Lib.hid (G1.out.trans gV2)
        clear HLC HF hok hz HP HNO HAT HLay hK2 hne
        go_wp2_with fail
        go_loopg [35] (zs.length) (fun kx s wr => ∃ k : Nat, k + kx = zs.length ∧ s = .int .i64 k ∧ Hid (Own wX.heap.size 5 .u8 wr (.slice (some ⟨wX.heap.size, 0, none⟩) n n) (bpayTo a l zs n k)) ∧ Hid (fitsTo l zs k = true) ∧ Hid (Far (fun x => x = wX.heap.size) V2 wr))
        case atStart => exact ⟨0, by omega, rfl, Lib.hid (by unfold bpayTo; exact O1), Lib.hid rfl, F0⟩
        case round =>
          obtain ⟨k, hk, rfl, hO, hft, hFa⟩ := hrel
          by_cases hlt : k < zs.length
          · obtain ⟨q, m, neg, e1, e2, hm, hq1, hpm⟩ := HFI.out k (by omega)
            obtain ⟨fb, rfl, hfb, c0, c1, c2⟩ := HLY.out k (by omega)
            rw [e1] at c0
            rw [e2, sneg_abs] at c1
            rw [e2, sneg_lt m neg hm.1] at c2
            have HFR := Lib.hid (fits_readS (a := a) HOK.out (zs := zs) (by omega) e1 e2)
            have hnx : Hid (putBE (bpayTo a l zs n k) q m (zi zs k) m = bpayTo a l zs n (k + 1)) := Lib.hid (by rw [bpayTo, e1, e2, sneg_abs]; rfl)
            have hpl := bpayTo_length a l zs n k
            have hwr : wX.heap.size < wr.heap.size := (hO.out.lt _ rfl).2
            have hpl1 := bpayTo_length a l zs n (k + 1)
            have hby1 := Lib.hid (bpayTo_bytes ha HOK.out (zs := zs) (k + 1) (by omega))
            have hfn := Lib.hid (show fitsTo l zs (k + 1) = (fitsTo l zs k && fitsZ (zi zs k) (zi l (2 * k + 1))) from rfl)
            rw [hft.out, Bool.true_and] at hfn
            obtain ⟨zb, zo, rfl, hzb, hzx⟩ := HR.out.at_ (i := k) hlt
            have hzk := hz'.out k
            have HWR := fun w' (g : Grew wr w') => Lib.hid (srp_write wX.heap.size wX.heap.size n (bpayTo a l zs n k) q m neg (zi zs k) w' (by have := hO.out.grew g; rwa [hpl]) (by omega) hm (by omega) hzk)
            rw [hnx.out, hpl] at HWR
            have HRD := fun w' v' (h : Row .u8 w' v' (bpayTo a l zs n (k + 1))) => Lib.hid (srp_read v' (bpayTo a l zs n (k + 1)) q m neg w' h hby1.out (by omega) hm (by omega))
            have y0 := (hFa.out.cell (p := ⟨fb, k * 3, none⟩) (Nat.lt_trans hfb (by omega)) (by show ¬ fb = _; omega)).trans ((gV2.cell (p := ⟨fb, k * 3, none⟩) hfb).trans c0)
            have y1 := (hFa.out.cell (p := ⟨fb, k * 3 + 1, none⟩) (Nat.lt_trans hfb (by omega)) (by show ¬ fb = _; omega)).trans ((gV2.cell (p := ⟨fb, k * 3 + 1, none⟩) hfb).trans c1)
            have y2 := (hFa.out.cell (p := ⟨fb, k * 3 + 2, none⟩) (Nat.lt_trans hfb (by omega)) (by show ¬ fb = _; omega)).trans ((gV2.cell (p := ⟨fb, k * 3 + 2, none⟩) hfb).trans c2)
            have hzr := (hFa.out.cell (p := ⟨zb, zo + k, none⟩) (Nat.lt_of_lt_of_le hzb GA.out.size) (by show ¬ zb = _; omega)).trans ((GA.out.cell (p := ⟨zb, zo + k, none⟩) hzb).trans hzx)
            have TA := (T1.out.grew (hg.out.trans gV2)).far hFa.out (by show ¬ w.heap.size = _; omega)
            clear c0 c1 c2 hzx hzk
            generalize zi zs k = z at *
            go_upto_region 11 with fail
            obtain ⟨W3, hW3, g3, T3⟩ := three_new wr (.int .i64 (q : Nat)) (.int .i64 (m : Nat)) (.bool neg) 125
            rw [hW3]
            have hzb3 : zb < wr.heap.size := World.block_lt_of_cell? wr ⟨zb, zo + k, none⟩ hzr
            have hz3 := (g3.cell (p := ⟨zb, zo + k, none⟩) hzb3).trans hzr
            have T3' := Lib.hid T3
            have TA3 := Lib.hid (TA.grew g3)
            have hzbn : ¬ zb = wX.heap.size := by have := hzb; omega
            clear hW3 y0 y1 y2 hzr TA
            obtain ⟨_, x0, x1, x2, _, _, _⟩ := T3
            obtain ⟨_, _, s2, _, _⟩ := TA3.out
            go_cut [40] (fun s wx => Hid (Own wX.heap.size 5 .u8 wx (.slice (some ⟨wX.heap.size, 0, none⟩) n n) (bpayTo a l zs n (k + 1))) ∧ Hid (Far (fun x => x = wX.heap.size) W3 wx))
            case first =>
              go_region_law (refine step_calls (f := 71) (args := #[.agg #[.int .i64 (q : Nat), .int .i64 (m : Nat), .bool neg], .slice (some ⟨wX.heap.size, 0, none⟩) n n, .int .i64 z]) rfl (by simp [go_sem]; done) ((HWR _ (Grew.trans g3 (by repeat (first | (with_reducible exact Grew.refl _) | (with_reducible refine Grew.drew ?_))))).out.mono ?_); rintro e w5 ⟨rfl, O5, F5⟩; refine ⟨_, rfl, ?_⟩)
              all_goals
                replace F5 := Far.trans (Far.of_grew (F := fun x => x = wX.heap.size) (Grew.refl W3).drew) F5
                clear HWR HRD HFR x0 x1 x2 s2 hz3
                go_wp2_with fail
                go_meet
                case rel => exact ⟨Lib.hid O5, Lib.hid F5⟩
            case rest =>
              obtain ⟨O5, F5⟩ := hcut
              obtain ⟨_, x0, x1, x2, _, _, _⟩ := T3'.out.far F5.out (by show ¬ _ = _; omega)
              have TA5 := TA3.out.far F5.out (by show ¬ _ = _; omega)
              have TA6 := Lib.hid TA5
              obtain ⟨_, _, s2, _, _⟩ := TA5
              have hz5 := (F5.out.cell (p := ⟨zb, zo + k, none⟩) (Nat.lt_of_lt_of_le hzb3 g3.size) hzbn).trans hz3
              have hR5 := Lib.hid O5.out.row
              have HR6 := fun w' (g : Grew wc w') => HRD w' _ (hR5.out.grew g)
              have hzb5 : zb < wc.heap.size := World.block_lt_of_cell? wc ⟨zb, zo + k, none⟩ hz5
              clear hz3 HWR HRD hR5
              cases hfit : fitsZ z (zi l (2 * k + 1)) with
              | true =>
                have hy := (HFR.out.2 hfit)
                rw [hy] at HR6
                rw [hfit] at hfn
                clear hy HFR
                go_wp2_with fail
                go_cut [56] (fun s wx => s = .bool false ∧ Hid (Grew wc wx))
                case first =>
                  go_region_law (refine step_calls (f := 72) (args := #[.agg #[.int .i64 (q : Nat), .int .i64 (m : Nat), .bool neg], .slice (some ⟨wX.heap.size, 0, none⟩) n n]) rfl (by simp [go_sem]; done) ((HR6 _ (by repeat (first | (with_reducible exact Grew.refl _) | (with_reducible refine Grew.drew ?_)))).out.mono ?_); rintro e w6 ⟨rfl, g6⟩; refine ⟨_, rfl, ?_⟩; replace g6 := Grew.trans (a := wc) (by repeat (first | (with_reducible exact Grew.refl _) | (with_reducible refine Grew.drew ?_))) g6; have s6 := (TA6.out.grew g6).c1; have z6 := (g6.cell (p := ⟨zb, zo + k, none⟩) hzb5).trans hz5)
                  all_goals
                    clear HR6 x0 x1 x2 s2 hz5
                    go_wp2_with fail
                    go_meet
                    case rel => exact ⟨by simp, Lib.hid (by first | assumption | exact (by assumption : Grew _ _).drew)⟩
                case rest =>
                  obtain ⟨rfl, g7⟩ := hcut
                  have O7 := Lib.hid (O5.out.grew g7.out)
                  have F7 := Lib.hid ((hFa.out.trans (Far.of_grew g3)).trans (F5.out.trans (Far.of_grew g7.out)))
                  clear HR6 x0 x1 x2 s2 hz5
                  go_wp2_with fail
                  go_roundg (zs.length - (k + 1))
                  case measure => omega
                  case rel => exact ⟨k + 1, by omega, by go_num, O7, hfn, F7⟩
              | false =>
                have hy : ¬ getB (bpayTo a l zs n (k + 1)) q (if neg then -(m : Int) else (m : Int)) = z := fun e => by have := HFR.out.1 e; rw [hfit] at this; cases this
                rw [hfit] at hfn
                have HPE : Hid (r = ([], 2)) := Lib.hid (by rw [HP'.out, if_neg (by rw [fits_noS hfn hlt]; decide)])
                generalize getB (bpayTo a l zs n (k + 1)) q (if neg then -(m : Int) else (m : Int)) = y at *
                clear HFR HP'
                go_wp2_with fail
                go_cut [56] (fun s wx => s = .bool true ∧ Hid (Grew wc wx))
                case first =>
                  go_region_law (refine step_calls (f := 72) (args := #[.agg #[.int .i64 (q : Nat), .int .i64 (m : Nat), .bool neg], .slice (some ⟨wX.heap.size, 0, none⟩) n n]) rfl (by simp [go_sem]; done) ((HR6 _ (by repeat (first | (with_reducible exact Grew.refl _) | (with_reducible refine Grew.drew ?_)))).out.mono ?_); rintro e w6 ⟨rfl, g6⟩; refine ⟨_, rfl, ?_⟩; replace g6 := Grew.trans (a := wc) (by repeat (first | (with_reducible exact Grew.refl _) | (with_reducible refine Grew.drew ?_))) g6; have s6 := (TA6.out.grew g6).c1; have z6 := (g6.cell (p := ⟨zb, zo + k, none⟩) hzb5).trans hz5)
                  all_goals
                    clear HR6 x0 x1 x2 s2 hz5
                    go_wp2_with fail
                    go_meet
                    case rel => exact ⟨by simp [hy], Lib.hid (by first | assumption | exact (by assumption : Grew _ _).drew)⟩
                case rest =>
                  obtain ⟨rfl, g7⟩ := hcut
                  have F7 := Lib.hid ((hFa.out.trans (Far.of_grew g3)).trans (F5.out.trans (Far.of_grew g7.out)))
                  have GR := Lib.hid (F7.out.grew GA.out (fun x h => by have : x = wX.heap.size := h; omega))
                  clear HR6 x0 x1 x2 s2 hz5
                  go_wp2_with fail
                  go_ret2
                  rw [HPE.out]
                  exact payR_no GR.out
          · obtain rfl : k = zs.length := by omega
            have HPO : Hid (r = (bpayTo a l zs n zs.length, 0)) := Lib.hid (by rw [HP'.out, if_pos hft.out])
            have OL := Lib.hid hO.out.lt
            have OR := Lib.hid hO.out.row
            have GR := Lib.hid (hFa.out.grew GA.out (fun x h => by have : x = wX.heap.size := h; omega))
            clear hO hFa HP' hft HFI HLY
            go_wp2_with fail
            go_ret2
            rw [HPO.out]
            exact ⟨_, rfl, OR.out, fun _ x hx => by have := OL.out x hx; omega, GR.out⟩
-- PAY]
end Go.Proofs.YtcdmbnbanopioaaGreatDoor

namespace Go.Proofs.YtcdmbnbanopioaaGreatDoor
open Go.RowKit
set_option linter.unusedVariables false

-- [ENC
set_option maxRecDepth 100000 in
set_option maxHeartbeats 4000000 in
theorem srp_Encode (a : Nat) (v : Value) (zs : List Int) (w : World) (ha : a < 256) (hr : RowZ .i64 w v zs) (hz : I64 zs) (hl : zs.length ≤ 100000) :
    Calls Tryz.prog 24 #[.agg #[.int .u8 (a : Nat), v]] w (PayR (srfEnc a zs) w) := by
  have HPAY := fun w' (g : Grew w w') => srp_Payload a v zs w' ha (hr.grew g) hz hl
  have henc : srfEnc a zs = if (srfPay a zs).2 = 0 then (srfFrame (srfPay a zs).1, 0) else ([], (srfPay a zs).2) := rfl
  obtain ⟨hL, hBL⟩ := srfPay_len ha zs
  generalize srfEnc a zs = r at *
  unfold PayR at HPAY
  generalize (srfPay a zs).2 = er at *
  generalize (srfPay a zs).1 = L at *
  replace HPAY := fun w' g => Lib.hid (HPAY w' g)
  obtain ⟨ZA, zc, rfl, hzc⟩ := hr.form
  by_cases he : er = 0
  · subst he
    rw [if_pos rfl] at henc
    have HE : Hid (r = ([160, 162, L.length / 256, L.length % 256] ++ L ++ [fifOf L / 256, fifOf L % 256, 176, 179], 0)) := Lib.hid henc
    have HFI := fun v' w' (h : Row .u8 w' v' L) => Lib.hid (sums_Fifteen v' L w' h hBL (by omega))
    have hf := fif_lt L
    clear henc hBL
    generalize fifOf L = f at *
    have m0 : (L.length : Int) % 256 = ((L.length % 256 : Nat) : Int) := by omega
    have m1 : (L.length : Int) / 256 = ((L.length / 256 : Nat) : Int) := by omega
    have m2 : IntKind.u8.wrap (L.length : Int) = ((L.length % 256 : Nat) : Int) := by rw [wrap_u8]; omega
    have p0 : (f : Int) % 256 = ((f % 256 : Nat) : Int) := by omega
    have p1 : (f : Int) / 256 = ((f / 256 : Nat) : Int) := by omega
    have p2 : IntKind.u8.wrap (f : Int) = ((f % 256 : Nat) : Int) := by rw [wrap_u8]; omega
    have hx1 : L.length % 256 < 256 := by omega
    have hx2 : L.length / 256 < 256 := by omega
    have hy1 : f % 256 < 256 := by omega
    have hy2 : f / 256 < 256 := by omega
    generalize L.length % 256 = M1 at *
    generalize L.length / 256 = M2 at *
    generalize f % 256 = F1 at *
    generalize f / 256 = F2 at *
    have m3 : IntKind.u8.wrap (M2 : Int) = (M2 : Int) := IntWalk.u8_in _ (by omega)
    have m4 : (M2 : Int) % 256 = (M2 : Int) := by omega
    have q3 : IntKind.u8.wrap (F2 : Int) = (F2 : Int) := IntWalk.u8_in _ (by omega)
    have q4 : (F2 : Int) % 256 = (F2 : Int) := by omega
    go_enter Tryz.func24, Tryz.ntmps24
    go_upto_region 1 with fail
    obtain ⟨W, hW, g0, T0⟩ := twoC_new w (.int .u8 (a : Nat)) (.slice ZA zs.length zc) 40
    rw [hW]
    clear hW
    obtain ⟨_, s0, s1, _, _⟩ := T0
    go_upto_region 4 with (go_at_call 48; refine (HPAY _ g0).out.mono ?_; rintro e w1 ⟨pv, rfl, hrow, hpo, g1⟩)
    obtain ⟨PA, pc, rfl, hpc⟩ := hrow.form
    have HC := HFI _ _ hrow
    go_upto_region 6 with (go_at_call 49; refine HC.out.mono ?_; rintro e w2 ⟨rfl, g2⟩)
    have hrow2 := hrow.grew g2
    have HO1 := own_litS (B := w2.heap.size) w2 5 #[.int .u8 160, .int .u8 162, .int .u8 (M2 : Nat), .int .u8 (M1 : Nat)] [160, 162, M2, M1] 4 (Nat.le_refl _) rfl rfl (by simp [maxLen])
    have HR1 := hrow2.grew ((Grew.refl w2).alloc (.cells #[.int .u8 160, .int .u8 162, .int .u8 (M2 : Nat), .int .u8 (M1 : Nat)] 5))
    have HL2 := fun w' => (own_litS (B := 0) w' 5 #[.int .u8 (F2 : Nat), .int .u8 (F1 : Nat), .int .u8 176, .int .u8 179] [F2, F1, 176, 179] 4 (Nat.zero_le _) rfl rfl (by simp [maxLen])).row
    go_upto_region 7 with (refine wpList_joinN _ rfl _ _ 25 rfl w2.heap.size 5 .u8 1 Tryz.underlying25 infoU8 (.slice (some ⟨w2.heap.size, 0, none⟩) 4 4) _ rfl HO1 _ L rfl HR1 (by simp only [List.length_cons, List.length_nil]; omega) (by decide) (by simp) ?_; intro v2 w3 hown hgrow hnil)
    have G2 : Grew w2 w3 := Grew.pushT ((Grew.refl w2).alloc _) HO1 (Nat.le_refl _) hgrow
    have HL5 := HL2 w3
    have hlen2 : (([160, 162, M2, M1] ++ L).length + 4) * 1 ≤ 140737488355328 := by rw [List.length_append]; simp only [List.length_cons, List.length_nil]; omega
    clear hgrow hnil HO1 HR1 HL2 HC
    go_wp2_with (refine wpList_joinN _ rfl _ _ 25 rfl w2.heap.size 5 .u8 1 Tryz.underlying25 infoU8 v2 _ rfl (hown.alloc _) _ [F2, F1, 176, 179] rfl HL5 hlen2 (by decide) (by have := G2.size; simp; omega) ?_; intro v6 w6 hown6 hgrow6 hnil6)
    go_ret2
    rw [HE.out]
    exact ⟨v6, rfl, hown6.row, fun _ x hx => by have h1 := hown6.lt x hx; have h2 := (g0.trans (g1.trans g2)).size; omega, (g0.trans (g1.trans g2)).trans (Grew.pushT (G2.alloc _) (hown.alloc _) (Nat.le_refl _) hgrow6)⟩
  · have henc' := Lib.hid (henc.trans (if_neg he))
    clear henc
    have he0 : ¬ (er : Int) = 0 := by omega
    go_enter Tryz.func24, Tryz.ntmps24
    go_upto_region 1 with fail
    obtain ⟨W, hW, g0, T0⟩ := twoC_new w (.int .u8 (a : Nat)) (.slice ZA zs.length zc) 40
    rw [hW]
    clear hW
    obtain ⟨_, s0, s1, _, _⟩ := T0
    go_wp2_with (go_at_call 48; refine (HPAY _ g0).out.mono ?_; rintro e w1 ⟨pv, rfl, hrow, hpo, g1⟩)
    go_ret2
    rw [henc'.out]
    exact payR_no (g0.trans g1)
-- ENC]
end Go.Proofs.YtcdmbnbanopioaaGreatDoor

