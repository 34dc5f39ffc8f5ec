/-
  The document's SiRF messages: a payload read: one field.
-/
import Derived.Test.YtcdmbnbanopioaaSrrA
import Derived.Test.YtcdmbnbanopioaaLocM
namespace Go.Proofs.Ytcdmbnbanopioaa
open Go.RowKit
set_option linter.unusedVariables false

def regOps (n : Nat) : Code → Array Oper
  | .region k ops _ => if k = n then ops else #[]
  | .seq a b => regOps n a ++ regOps n b
  | .block _ c => regOps n c
  | .loop c => regOps n c
  | .scope c => regOps n c
  | .cond _ a b => regOps n a ++ regOps n b
  | _ => #[]
def regCode (n : Nat) : Code → Option Code
  | .region k ops d => if k = n then some (.region k ops d) else none
  | .seq a b => match regCode n a with
    | some c => some c
    | none => regCode n b
  | .block _ c => regCode n c
  | .loop c => regCode n c
  | .scope c => regCode n c
  | .cond _ a b => match regCode n a with
    | some c => some c
    | none => regCode n b
  | _ => none
theorem wp_thenS {P : Program} {c : Code} {K : Act → World → Prop} {Q : Exit → Act → World → Prop} {a : Act} {w : World} (h : c.wp P (Exit.then K fun _ _ _ => False) a w) : c.wp P (Exit.then K Q) a w :=
  wp_mono h (fun e a' w' q => by cases e <;> first | exact q | exact q.elim)
theorem wp_pushZ {P : Program} (w : World) {o : Oper} {a : Act} {K : Act → World → Prop} {Q : Exit → Act → World → Prop} (s x : Operand) (t : TypeId)
    (ho : o.op = .call { callee := .builtin .append, args := #[s, x], argTypes := #[t, t] })
    (base : Nat) (E : TypeId) (k : IntKind) (bytes : Nat) (ht : P.underlying t = some (.slice E)) (hi : (P.info? E).map (fun i => (i.zero, i.size, i.bytes)) = some (some (.int k 0), 1, bytes))
    (v : Value) (zs : List Int) (hs : a.eval s = v) (hown : OwnZ base E k w v zs)
    (ad : Addr) (n : Int) (hx : a.eval x = .slice (some ad) 1 1) (hc : w.cell? ad = some (.int k n))
    (hlen : (zs.length + 1) * bytes ≤ 140737488355328) (hb : 0 < bytes) (hbase : base ≤ w.heap.size)
    (h : ∀ v' w', OwnZ base E k w' v' (zs ++ [n]) → w.grownBy w' v.ownBlock → K (a.put o.dst v') w') : o.wp P a w K Q := by
  obtain ⟨i, hi0, hz0, hz1, hz2⟩ := info_parts hi
  refine wp_append_own w s x t ho base E i (.int k 0) 1 bytes ht hi0 hz0 hz1 hz2 rfl (by decide) v zs.length (cellsZ k zs) hs hown ad 1 1 [.int k n] hx rfl ?_ ?_ ?_ hlen hbase ?_
  · intro j u hj
    match j, hj with
    | 0, hj => simp at hj; subst hj; simpa [Addr.add] using hc
  · intro u hu; simp at hu; subst hu; rfl
  · have := Nat.le_mul_of_pos_right (zs.length + 1) hb
    unfold maxLen; omega
  · intro v' w' h1 h2 _
    refine h v' w' ?_ h2
    unfold OwnZ cellsZ
    simpa [cellsZ] using h1
noncomputable def sdOps : Array Oper := (Try.f42.body.map (regOps 12)).getD #[]
noncomputable def sdCode : Code := (Try.f42.body.bind (regCode 12)).getD .skip
theorem sd_ahead {L : Nat → Bool} (hc : ∀ j k, L j = true → waitsAt sdOps j k = true → L k = true) (h : L 20 = true) : ∀ i, i < 20 → L i = true := by
  have h19 := hc 20 19 h (by kernel_rfl)
  have h18 := hc 20 18 h (by kernel_rfl)
  have h1 := hc 20 1 h (by kernel_rfl)
  have h0 := hc 1 0 h1 (by kernel_rfl)
  have h17 := hc 18 17 h18 (by kernel_rfl)
  have h12 := hc 18 12 h18 (by kernel_rfl)
  have h16 := hc 17 16 h17 (by kernel_rfl)
  have h15 := hc 16 15 h16 (by kernel_rfl)
  have h13 := hc 16 13 h16 (by kernel_rfl)
  have h14 := hc 15 14 h15 (by kernel_rfl)
  have h11 := hc 12 11 h12 (by kernel_rfl)
  have h6 := hc 12 6 h12 (by kernel_rfl)
  have h2 := hc 12 2 h12 (by kernel_rfl)
  have h10 := hc 11 10 h11 (by kernel_rfl)
  have h9 := hc 10 9 h10 (by kernel_rfl)
  have h7 := hc 10 7 h10 (by kernel_rfl)
  have h8 := hc 9 8 h9 (by kernel_rfl)
  have h5 := hc 6 5 h6 (by kernel_rfl)
  have h4 := hc 5 4 h5 (by kernel_rfl)
  have h3 := hc 5 3 h5 (by kernel_rfl)
  intro i hi
  match i, hi with
  | 0, _ => exact h0
  | 1, _ => exact h1
  | 2, _ => exact h2
  | 3, _ => exact h3
  | 4, _ => exact h4
  | 5, _ => exact h5
  | 6, _ => exact h6
  | 7, _ => exact h7
  | 8, _ => exact h8
  | 9, _ => exact h9
  | 10, _ => exact h10
  | 11, _ => exact h11
  | 12, _ => exact h12
  | 13, _ => exact h13
  | 14, _ => exact h14
  | 15, _ => exact h15
  | 16, _ => exact h16
  | 17, _ => exact h17
  | 18, _ => exact h18
  | 19, _ => exact h19
  | n + 20, hn => exact absurd hn (by omega)
section
/-- What the operations of one field's reading leave. -/
def SdS (sb lb lo k p : Nat) (v' pay lv : Value) (Z y : Int) (T : List Nat) (zs : List Int) (L : Nat → Bool) (i : Nat) (w : World) (v : Value) : Prop :=
  match i with
  | 0 => v = .pointer (some ⟨sb, 1, none⟩)
  | 1 => v = v'
  | 2 => v = pay
  | 3 => v = lv
  | 4 => v = .int .i64 ((2 * k : Nat) : Int)
  | 5 => v = .pointer (some ⟨lb, lo + 2 * k, none⟩)
  | 6 => v = .int .i64 (p : Nat)
  | 7 => v = lv
  | 8 => v = .int .i64 ((2 * k : Nat) : Int)
  | 9 => v = .int .i64 ((2 * k + 1 : Nat) : Int)
  | 10 => v = .pointer (some ⟨lb, lo + (2 * k + 1), none⟩)
  | 11 => v = .int .i64 Z
  | 13 => v = lv
  | 14 => v = .int .i64 ((2 * k : Nat) : Int)
  | 15 => v = .int .i64 ((2 * k + 1 : Nat) : Int)
  | 16 => v = .pointer (some ⟨lb, lo + (2 * k + 1), none⟩)
  | 17 => v = .int .i64 Z
  | 18 => v = .int .i64 y
  | 21 => v = .pointer (some ⟨sb, 1, none⟩)
  | 12 => L 20 = false → Row .u8 w v T
  | 19 => L 20 = false → ∃ b, v = .slice (some ⟨b, 0, none⟩) 1 1 ∧ w.cell? ⟨b, 0, none⟩ = some (.int .i64 y) ∧ b < w.heap.size
  | 20 => L 22 = false → OwnZ (sb + 1) 2 .i64 w v (zs ++ [y])
  | _ => True
/-- What holds of the world. -/
def SdG (sb : Nat) (x0 : Value) (y : Int) (zs : List Int) (W : World) (L : Nat → Bool) (w : World) : Prop :=
  if L 22 = true then ∃ v2, OwnZ (sb + 1) 2 .i64 w v2 (zs ++ [y]) ∧ TwoC w sb x0 v2 ∧ Far (fun x => sb ≤ x) W w
  else if L 20 = true then Far (fun x => sb + 1 ≤ x) W w else Grew W w
variable {sb lb lo k p : Nat} {v' pay lv x0 : Value} {Z y : Int} {T : List Nat} {zs : List Int}
theorem SdS.also {L : Nat → Bool} {i j : Nat} {w w' : World} {v : Value} (h : SdS sb lb lo k p v' pay lv Z y T zs L i w v) (g : Grew w w') (hj : j ≠ 22) (hj2 : j ≠ 20) : SdS sb lb lo k p v' pay lv Z y T zs (also L j) i w' v := by
  unfold SdS at h ⊢
  split at h
  · exact h
  · exact h
  · exact h
  · exact h
  · exact h
  · exact h
  · exact h
  · exact h
  · exact h
  · exact h
  · exact h
  · exact h
  · exact h
  · exact h
  · exact h
  · exact h
  · exact h
  · exact h
  · exact h
  · rw [also_ne (Ne.symm hj2)]; exact fun q => (h q).grew g
  · rw [also_ne (Ne.symm hj2)]
    intro q
    obtain ⟨b, e, hc, hb⟩ := h q
    exact ⟨b, e, (g.cell (p := ⟨b, 0, none⟩) hb).trans hc, Nat.lt_of_lt_of_le hb g.size⟩
  · rw [also_ne (Ne.symm hj)]; exact fun q => (h q).grew g
  · trivial
theorem sd_of {P : Program} {Q : Exit → Act → World → Prop} {o : Oper} {a : Act} {w W : World} {L : Nat → Bool} {i : Nat}
    (hc : ∀ j k, L j = true → waitsAt sdOps j k = true → L k = true) (hL : L i = false) (hi : i < 20)
    (hd : ∀ j d, L j = true → writes sdOps j d = true → SdS sb lb lo k p v' pay lv Z y T zs L j w (a.tmps[d]?.getD undef)) (g : SdG sb x0 y zs W L w)
    (h : Grew W w → o.wp P a w (fun a' w'' => ∃ v, a' = a.put o.dst v ∧ SdS sb lb lo k p v' pay lv Z y T zs (also L i) i w'' v ∧ Grew w w'') Q) :
    o.wp P a w (fun a' w' => ∃ v, a' = a.put o.dst v ∧ (∀ d, o.dst = some d → SdS sb lb lo k p v' pay lv Z y T zs (also L i) i w' v) ∧ (∀ j d, L j = true → writes sdOps j d = true → SdS sb lb lo k p v' pay lv Z y T zs (also L i) j w' (a.tmps[d]?.getD undef)) ∧ SdG sb x0 y zs W (also L i) w') Q := by
  have h20 : L 20 = false := by
    cases q : L 20 with
    | false => rfl
    | true => rw [sd_ahead hc q i hi] at hL; cases hL
  have h22 : L 22 = false := by
    cases q : L 22 with
    | false => rfl
    | true => rw [hc 22 20 q (by kernel_rfl)] at h20; cases h20
  unfold SdG at g
  rw [h22, h20, if_neg (by decide), if_neg (by decide)] at g
  refine Oper.wp_mono ?_ (h g)
  rintro a' w' ⟨v, h1, h2, h3⟩
  refine ⟨v, h1, fun _ _ => h2, fun j d hl hw => (hd j d hl hw).also h3 (by omega) (by omega), ?_⟩
  unfold SdG
  rw [also_ne (by omega), also_ne (by omega), h22, h20, if_neg (by decide), if_neg (by decide)]
  exact g.trans h3
end
set_option maxRecDepth 1000000 in
set_option maxHeartbeats 8000000 in
theorem srf_round {sb lb lo k p m ln sc lc : Nat} {neg : Bool} {v' x0 : Value} {SA : Option Addr} {y : Int} {S : List Nat} {zs : List Int} {W : World} (a0 : Act)
    (hS : Hid (Row .u8 W (.slice SA S.length sc) S)) (hB : Hid (Bytes S)) (hpm : p + m ≤ S.length) (hm : 0 < m ∧ m ≤ 4) (hl : S.length ≤ 100000)
    (hlb : lb < W.heap.size) (c1 : Hid (W.cell? ⟨lb, lo + 2 * k, none⟩ = some (.int .i64 (p : Nat)))) (c2 : Hid (W.cell? ⟨lb, lo + (2 * k + 1), none⟩ = some (.int .i64 (if neg then -(m : Int) else (m : Int))))) (hk : 2 * k + 1 < ln) (hk2 : ln ≤ 24)
    (hT : Hid (TwoC W sb x0 v')) (hO : Hid (OwnZ (sb + 1) 2 .i64 W v' zs)) (hzl : zs.length ≤ 24) (hy : Hid (getZ (turnTo S p m m) 0 (if neg then -(m : Int) else (m : Int)) = y))
    (hn : a0.tmps.size = 60) (e0 : a0.tmps[0]?.getD undef = .slice SA S.length sc) (e5 : a0.tmps[5]?.getD undef = .slice (some ⟨lb, lo, none⟩) ln lc) (e6 : a0.tmps[6]?.getD undef = .pointer (some ⟨sb, 0, none⟩)) (e7 : a0.tmps[7]?.getD undef = .int .i64 ((2 * k : Nat) : Int))
    (K0 : Act → World → Prop)
    (post : ∀ (a : Act) (w' : World), a.defers = a0.defers → a.tmps.size = 60 → (∀ k, freeSlotA sdOps k = true → a.tmps[k]?.getD undef = a0.tmps[k]?.getD undef) →
      (∃ v2, OwnZ (sb + 1) 2 .i64 w' v2 (zs ++ [y]) ∧ TwoC w' sb x0 v2 ∧ Far (fun x => sb ≤ x) W w') → K0 a w') :
    Code.wp Try.prog sdCode (Exit.then K0 fun _ _ _ => False) a0 W := by
  have i1 : 2 * (k : Int) < ln := by omega
  have i2 : 2 * (k : Int) + 1 < ln := by omega
  have i3 : 0 ≤ 2 * (k : Int) := by omega
  have i4 : 0 ≤ 2 * (k : Int) + 1 := by omega
  have i5 : IntKind.i64.wrap (2 * (k : Int) + 1) = 2 * (k : Int) + 1 := IntWalk.i64_in _ (by omega)
  have i6 : (2 * (k : Int)).toNat = 2 * k := by omega
  have i7 : (2 * (k : Int) + 1).toNat = 2 * k + 1 := by omega
  conv => arg 2; whnf
  refine wp_region_fillG (n := 60) (ops := sdOps) (by kernel_rfl) (fun L i w' v => SdS sb lb lo k p v' (.slice SA S.length sc) (.slice (some ⟨lb, lo, none⟩) ln lc) (if neg then -(m : Int) else (m : Int)) y (turnTo S p m m) zs L i w' v) (fun L w' => SdG sb x0 y zs W L w') ?_ ?_ ?_ ?_ ?_ ?_
  case refine_1 => kernel_rfl
  case refine_2 => kernel_rfl
  case refine_3 => exact hn
  case refine_4 =>
    intro L hL
    unfold SdG
    rw [hL, hL, if_neg (by decide), if_neg (by decide)]
    exact (Grew.refl W).drew
  case refine_6 =>
    intro L a w' hL hdef hsz ho hd g
    unfold SdG at g
    rw [if_pos (hL 22 (of_decide_eq_true (by kernel_rfl)))] at g
    exact post a w' hdef hsz ho g
  simp only [AllFrom]
  refine ⟨?_, ?_, ?_, ?_, ?_, ?_, ?_, ?_, ?_, ?_, ?_, ?_, ?_, ?_, ?_, ?_, ?_, ?_, ?_, ?_, ?_, ?_, ?_, trivial⟩
  · intro L c w' hL ho hw hc hd g
    have e6 : c.tmps[6]?.getD undef = _ := (ho 6 (by kernel_rfl)).trans e6
    refine sd_of hc hL (by decide) hd g (fun g => each_value (v := .pointer (some ⟨sb, 1, none⟩)) ?_ rfl)
    simp [execOp, go_sem, e6]
  · intro L c w' hL ho hw hc hd g
    have x : c.tmps[37]?.getD undef = .pointer (some ⟨sb, 1, none⟩) := hd 0 37 (hw 0 (by kernel_rfl)) (by kernel_rfl)
    refine sd_of hc hL (by decide) hd g (fun g => ?_)
    have hc1 := (hT.out.grew g).c1
    refine each_value (v := v') ?_ rfl
    obtain ⟨A, cc, rfl, _⟩ := hO.out.row.form
    simp [execOp, go_sem, x, hc1]
  · intro L c w' hL ho hw hc hd g
    have e0 : c.tmps[0]?.getD undef = _ := (ho 0 (by kernel_rfl)).trans e0
    refine sd_of hc hL (by decide) hd g (fun g => each_value (v := .slice SA S.length sc) ?_ rfl)
    simp [execOp, go_sem, e0]
  · intro L c w' hL ho hw hc hd g
    have e5 : c.tmps[5]?.getD undef = _ := (ho 5 (by kernel_rfl)).trans e5
    refine sd_of hc hL (by decide) hd g (fun g => each_value (v := .slice (some ⟨lb, lo, none⟩) ln lc) ?_ rfl)
    simp [execOp, go_sem, e5]
  · intro L c w' hL ho hw hc hd g
    have e7 : c.tmps[7]?.getD undef = _ := (ho 7 (by kernel_rfl)).trans e7
    refine sd_of hc hL (by decide) hd g (fun g => each_value (v := .int .i64 ((2 * k : Nat) : Int)) ?_ rfl)
    simp [execOp, go_sem, e7]
  · intro L c w' hL ho hw hc hd g
    have x : c.tmps[40]?.getD undef = .slice (some ⟨lb, lo, none⟩) ln lc := hd 3 40 (hw 3 (by kernel_rfl)) (by kernel_rfl)
    have z : c.tmps[41]?.getD undef = .int .i64 ((2 * k : Nat) : Int) := hd 4 41 (hw 4 (by kernel_rfl)) (by kernel_rfl)
    refine sd_of hc hL (by decide) hd g (fun g => each_value (v := .pointer (some ⟨lb, lo + 2 * k, none⟩)) ?_ rfl)
    simp [execOp, go_sem, x, z, i1, i3, i6]
  · intro L c w' hL ho hw hc hd g
    have x : c.tmps[42]?.getD undef = .pointer (some ⟨lb, lo + 2 * k, none⟩) := hd 5 42 (hw 5 (by kernel_rfl)) (by kernel_rfl)
    refine sd_of hc hL (by decide) hd g (fun g => ?_)
    have hc1 := (g.cell (p := ⟨lb, lo + 2 * k, none⟩) hlb).trans c1.out
    refine each_value (v := .int .i64 (p : Nat)) ?_ rfl
    simp [execOp, go_sem, x, hc1]
  · intro L c w' hL ho hw hc hd g
    have e5 : c.tmps[5]?.getD undef = _ := (ho 5 (by kernel_rfl)).trans e5
    refine sd_of hc hL (by decide) hd g (fun g => each_value (v := .slice (some ⟨lb, lo, none⟩) ln lc) ?_ rfl)
    simp [execOp, go_sem, e5]
  · intro L c w' hL ho hw hc hd g
    have e7 : c.tmps[7]?.getD undef = _ := (ho 7 (by kernel_rfl)).trans e7
    refine sd_of hc hL (by decide) hd g (fun g => each_value (v := .int .i64 ((2 * k : Nat) : Int)) ?_ rfl)
    simp [execOp, go_sem, e7]
  · intro L c w' hL ho hw hc hd g
    have x : c.tmps[45]?.getD undef = .int .i64 ((2 * k : Nat) : Int) := hd 8 45 (hw 8 (by kernel_rfl)) (by kernel_rfl)
    refine sd_of hc hL (by decide) hd g (fun g => each_value (v := .int .i64 ((2 * k + 1 : Nat) : Int)) ?_ rfl)
    simp [execOp, go_sem, x, i5]
  · intro L c w' hL ho hw hc hd g
    have x : c.tmps[44]?.getD undef = .slice (some ⟨lb, lo, none⟩) ln lc := hd 7 44 (hw 7 (by kernel_rfl)) (by kernel_rfl)
    have z : c.tmps[46]?.getD undef = .int .i64 ((2 * k + 1 : Nat) : Int) := hd 9 46 (hw 9 (by kernel_rfl)) (by kernel_rfl)
    refine sd_of hc hL (by decide) hd g (fun g => each_value (v := .pointer (some ⟨lb, lo + (2 * k + 1), none⟩)) ?_ rfl)
    simp [execOp, go_sem, x, z, i2, i4, i7]
  · intro L c w' hL ho hw hc hd g
    have x : c.tmps[47]?.getD undef = .pointer (some ⟨lb, lo + (2 * k + 1), none⟩) := hd 10 47 (hw 10 (by kernel_rfl)) (by kernel_rfl)
    refine sd_of hc hL (by decide) hd g (fun g => ?_)
    have hc1 := (g.cell (p := ⟨lb, lo + (2 * k + 1), none⟩) hlb).trans c2.out
    refine each_value (v := .int .i64 (if neg then -(m : Int) else (m : Int))) ?_ rfl
    simp [execOp, go_sem, x, hc1]
  · intro L c w' hL ho hw hc hd g
    have x : c.tmps[39]?.getD undef = .slice SA S.length sc := hd 2 39 (hw 2 (by kernel_rfl)) (by kernel_rfl)
    have z : c.tmps[43]?.getD undef = .int .i64 (p : Nat) := hd 6 43 (hw 6 (by kernel_rfl)) (by kernel_rfl)
    have u : c.tmps[48]?.getD undef = .int .i64 (if neg then -(m : Int) else (m : Int)) := hd 11 48 (hw 11 (by kernel_rfl)) (by kernel_rfl)
    refine sd_of hc hL (by decide) hd g (fun g => ?_)
    refine each_call (f := 50) (args := #[.slice SA S.length sc, .int .i64 (p : Nat), .int .i64 (if neg then -(m : Int) else (m : Int))]) (by simp [go_sem, x, z, u]) ((ref13_turned _ S p m neg w' (hS.out.grew g) hB.out hpm hm hl).mono ?_)
    rintro e w'' ⟨v, rfl, ho', g'⟩
    exact ⟨_, rfl, fun _ => ho'.row, g'⟩
  · intro L c w' hL ho hw hc hd g
    have e5 : c.tmps[5]?.getD undef = _ := (ho 5 (by kernel_rfl)).trans e5
    refine sd_of hc hL (by decide) hd g (fun g => each_value (v := .slice (some ⟨lb, lo, none⟩) ln lc) ?_ rfl)
    simp [execOp, go_sem, e5]
  · intro L c w' hL ho hw hc hd g
    have e7 : c.tmps[7]?.getD undef = _ := (ho 7 (by kernel_rfl)).trans e7
    refine sd_of hc hL (by decide) hd g (fun g => each_value (v := .int .i64 ((2 * k : Nat) : Int)) ?_ rfl)
    simp [execOp, go_sem, e7]
  · intro L c w' hL ho hw hc hd g
    have x : c.tmps[51]?.getD undef = .int .i64 ((2 * k : Nat) : Int) := hd 14 51 (hw 14 (by kernel_rfl)) (by kernel_rfl)
    refine sd_of hc hL (by decide) hd g (fun g => each_value (v := .int .i64 ((2 * k + 1 : Nat) : Int)) ?_ rfl)
    simp [execOp, go_sem, x, i5]
  · intro L c w' hL ho hw hc hd g
    have x : c.tmps[50]?.getD undef = .slice (some ⟨lb, lo, none⟩) ln lc := hd 13 50 (hw 13 (by kernel_rfl)) (by kernel_rfl)
    have z : c.tmps[52]?.getD undef = .int .i64 ((2 * k + 1 : Nat) : Int) := hd 15 52 (hw 15 (by kernel_rfl)) (by kernel_rfl)
    refine sd_of hc hL (by decide) hd g (fun g => each_value (v := .pointer (some ⟨lb, lo + (2 * k + 1), none⟩)) ?_ rfl)
    simp [execOp, go_sem, x, z, i2, i4, i7]
  · intro L c w' hL ho hw hc hd g
    have x : c.tmps[53]?.getD undef = .pointer (some ⟨lb, lo + (2 * k + 1), none⟩) := hd 16 53 (hw 16 (by kernel_rfl)) (by kernel_rfl)
    refine sd_of hc hL (by decide) hd g (fun g => ?_)
    have hc1 := (g.cell (p := ⟨lb, lo + (2 * k + 1), none⟩) hlb).trans c2.out
    refine each_value (v := .int .i64 (if neg then -(m : Int) else (m : Int))) ?_ rfl
    simp [execOp, go_sem, x, hc1]
  · intro L c w' hL ho hw hc hd g
    have u : c.tmps[54]?.getD undef = .int .i64 (if neg then -(m : Int) else (m : Int)) := hd 17 54 (hw 17 (by kernel_rfl)) (by kernel_rfl)
    refine sd_of hc hL (by decide) hd g (fun g => ?_)
    have h20 : L 20 = false := by
      cases q : L 20 with
      | false => rfl
      | true => rw [sd_ahead hc q 18 (by decide)] at hL; cases hL
    have hr : Row .u8 w' (c.tmps[49]?.getD undef) (turnTo S p m m) := hd 12 49 (hw 12 (by kernel_rfl)) (by kernel_rfl) h20
    refine each_call (f := 48) (args := #[c.tmps[49]?.getD undef, .int .i64 ((0 : Nat) : Int), .int .i64 (if neg then -(m : Int) else (m : Int))]) (by simp [go_sem, u]) ((ref12_Get _ (turnTo S p m m) 0 m neg w' hr (turnTo_bytes hB.out _ _ _) (by rw [turnTo_length]; omega) hm (by rw [turnTo_length]; omega)).mono ?_)
    rintro e w'' ⟨rfl, g'⟩
    rw [hy.out]
    exact ⟨_, rfl, rfl, g'⟩
  · intro L c w' hL ho hw hc hd g
    have x : c.tmps[55]?.getD undef = .int .i64 y := hd 18 55 (hw 18 (by kernel_rfl)) (by kernel_rfl)
    refine sd_of hc hL (by decide) hd g (fun g => ?_)
    refine each_made (v := .slice (some ⟨w'.heap.size, 0, none⟩) 1 1) (w1 := w'.alloc (.cells #[.int .i64 y] 2)) ?_ ((Grew.refl _).alloc _) (fun _ => ⟨_, rfl, by simp, by simp⟩)
    simp [execOp, go_sem, x]
  · intro L c w' hL ho hw hc hd g
    have x : c.tmps[38]?.getD undef = v' := hd 1 38 (hw 1 (by kernel_rfl)) (by kernel_rfl)
    have h22 : L 22 = false := by
      cases q : L 22 with
      | false => rfl
      | true => rw [hc 22 20 q (by kernel_rfl)] at hL; cases hL
    obtain ⟨b, e56, hcb, hbb⟩ := hd 19 56 (hw 19 (by kernel_rfl)) (by kernel_rfl) hL
    have g' := g
    unfold SdG at g'
    rw [h22, hL, if_neg (by decide), if_neg (by decide)] at g'
    have hOW := hO.out.grew g'
    refine Oper.wp_mono ?_ (wp_pushZ (K := fun a' w'' => ∃ v, a' = c.put (some 57) v ∧ OwnZ (sb + 1) 2 .i64 w'' v (zs ++ [y]) ∧ Far (fun x => sb + 1 ≤ x) W w'') w' (.tmp 38) (.tmp 56) 77 rfl (sb + 1) 2 .i64 8 Try.underlying77 infoI64 v' zs (by simpa [go_sem] using x) hOW ⟨b, 0, none⟩ y (by simpa [go_sem] using e56) hcb (by omega) (by decide) (Nat.le_trans (Nat.succ_le_of_lt hT.out.lt) g'.size) (fun v'' w'' h1 h2 => ⟨v'', rfl, h1, (Far.of_grew g').trans (far_of_own hOW h2)⟩))
    rintro a' w'' ⟨v2, rfl, hv2, hf2⟩
    have e20 : also L 20 20 = true := by unfold also; simp
    have e22 : also L 20 22 = false := by rw [also_ne (by decide)]; exact h22
    refine ⟨v2, rfl, fun _ _ => fun _ => hv2, fun j d hl hwr => ?_, ?_⟩
    · have h := hd j d hl hwr
      have hj : j ≠ 20 := fun e => by subst e; rw [hL] at hl; cases hl
      show SdS _ _ _ _ _ _ _ _ _ _ _ _ (also L 20) j w'' _
      have h : SdS sb lb lo k p v' (.slice SA S.length sc) (.slice (some ⟨lb, lo, none⟩) ln lc) (if neg then -(m : Int) else (m : Int)) y (turnTo S p m m) zs L j w' (c.tmps[d]?.getD undef) := h
      unfold SdS at h ⊢
      split at h
      all_goals first
        | exact h
        | (intro q; rw [e20] at q; cases q)
        | exact absurd rfl hj
    · show SdG sb x0 y zs W (also L 20) w''
      unfold SdG
      rw [e22, e20, if_neg (by decide), if_pos rfl]
      exact hf2
  · intro L c w' hL ho hw hc hd g
    have e6 : c.tmps[6]?.getD undef = _ := (ho 6 (by kernel_rfl)).trans e6
    have h20 : L 20 = true := hw 20 (by kernel_rfl)
    have hex : ∀ o : Oper, o.op = .fieldAddr 85 (.tmp 6) 1 → (execOp c.eval o).run Try.prog w' = .ok (.value (.pointer (some ⟨sb, 1, none⟩))) w' := fun o ho => by
      simp [execOp, ho, go_sem, e6]
    have h22 : L 22 = false := by
      cases q : L 22 with
      | false => rfl
      | true => rw [hc 22 21 q (by kernel_rfl)] at hL; cases hL
    unfold Oper.wp
    rw [hex _ rfl]
    refine ⟨_, rfl, fun _ _ => rfl, fun j d hl hwr => SdS.also (hd j d hl hwr) (Grew.refl _) (by decide) (by decide), ?_⟩
    have g' := g
    unfold SdG at g'
    rw [h22, h20, if_neg (by decide), if_pos rfl] at g'
    show SdG sb x0 y zs W (also L 21) w'
    unfold SdG
    rw [also_ne (by decide), also_ne (by decide), h22, h20, if_neg (by decide), if_pos rfl]
    exact g'
  · intro L c w' hL ho hw hc hd g
    have h20 : L 20 = true := hw 20 (by kernel_rfl)
    have e58 : c.tmps[58]?.getD undef = .pointer (some ⟨sb, 1, none⟩) := hd 21 58 (hw 21 (by kernel_rfl)) (by kernel_rfl)
    have hv : OwnZ (sb + 1) 2 .i64 w' (c.tmps[57]?.getD undef) (zs ++ [y]) := hd 20 57 h20 (by kernel_rfl) hL
    have g' := g
    unfold SdG at g'
    rw [hL, h20, if_neg (by decide), if_pos rfl] at g'
    have hT' := hT.out.far g' (by show ¬ sb + 1 ≤ sb; omega)
    obtain ⟨A, cc, e57, _⟩ := hv.row.form
    obtain ⟨N, hN⟩ : ∃ N, (zs ++ [y]).length = N := ⟨_, rfl⟩
    rw [hN] at e57
    rw [e57] at hv
    have hc1 := hT'.c1
    have hf1 := hT'.f1
    have hex : ∀ o : Oper, o.op = .store 77 (.tmp 58) (.tmp 57) → (execOp c.eval o).run Try.prog w' = .ok .skip (w'.setCell ⟨sb, 1, none⟩ (.slice A N cc)) := fun o ho => by
      simp [execOp, ho, go_sem, e58, e57, hc1, hf1]
    have F1 := (Far.refl (fun x => x = sb) w').setCell (p := ⟨sb, 1, none⟩) rfl (.slice A N cc)
    unfold Oper.wp
    rw [hex _ rfl]
    have e22 : also L 22 22 = true := by unfold also; simp
    have e20 : also L 22 20 = true := by rw [also_ne (by decide)]; exact h20
    refine ⟨undef, rfl, fun d hd' => (by cases hd'), fun j d hl hwr => ?_, ?_⟩
    · have h : SdS sb lb lo k p v' (.slice SA S.length sc) (.slice (some ⟨lb, lo, none⟩) ln lc) (if neg then -(m : Int) else (m : Int)) y (turnTo S p m m) zs L j w' (c.tmps[d]?.getD undef) := hd j d hl hwr
      show SdS sb lb lo k p v' (.slice SA S.length sc) (.slice (some ⟨lb, lo, none⟩) ln lc) (if neg then -(m : Int) else (m : Int)) y (turnTo S p m m) zs (also L 22) j _ (c.tmps[d]?.getD undef)
      unfold SdS at h ⊢
      split at h
      all_goals first
        | exact h
        | (intro q; rw [e20] at q; cases q)
        | (intro q; rw [e22] at q; cases q)
    · show SdG sb x0 y zs W (also L 22) _
      unfold SdG
      rw [e22, if_pos rfl]
      exact ⟨.slice A N cc, hv.far F1 (fun x hx e => by have := hv.lt x hx; have e : x = sb := e; omega), hT'.put1 _, (g'.mono (G := fun x => sb ≤ x) (fun x _ h => Nat.le_of_succ_le h)).setCell (p := ⟨sb, 1, none⟩) (Nat.le_refl _) _⟩
end Go.Proofs.Ytcdmbnbanopioaa
