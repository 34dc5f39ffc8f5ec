/-
  The document's SiRF messages: a payload read: one field.
  The document's SiRF messages: a payload read.
  A region that calls Decode of UBX and keeps what it tells in a variable, whatever comes up first: what each operation leaves.
  The program's map of kinds of messages: what message.kinds makes, in whatever order its entries come up; a key looked up.
  Messages: read of message: the regions that lay what a sentence, a UBX, a SiRF message told into the results, whatever comes up first.
-/
import Derived.Test.YtnhigfkhdmkoeaaGreatDoorP03
import Derived.Test.YtnhigfkhdmkoeaaGreatDoorP02
import Derived.LoopTactic
import Derived.Deep.LoopGhost
import Derived.StillTailTactics
import Derived.Deep.QuietTactic
import Derived.BigQuiet
import Derived.ChangeMaps5
import Derived.Deep.CutBlock
import Derived.Deep.DeepCutAuto
import Derived.KernelRfl

namespace Go.Proofs.YtnhigfkhdmkoeaaGreatDoor
open Go.RowKit
set_option linter.unusedVariables false

def regOps (n : Nat) : Code → Array Oper
  | .region k ops _ => if k = n then ops else #[]
  | .seq a b => regOps n a ++ regOps n b
  | .block _ c => regOps n c
  | .loop c => regOps n c
  | .scope c => regOps n c
  | .cond _ a b => regOps n a ++ regOps n b
  | _ => #[]
def regCode (n : Nat) : Code → Option Code
  | .region k ops d => if k = n then some (.region k ops d) else none
  | .seq a b => match regCode n a with
    | some c => some c
    | none => regCode n b
  | .block _ c => regCode n c
  | .loop c => regCode n c
  | .scope c => regCode n c
  | .cond _ a b => match regCode n a with
    | some c => some c
    | none => regCode n b
  | _ => none
theorem wp_thenS {P : Program} {c : Code} {K : Act → World → Prop} {Q : Exit → Act → World → Prop} {a : Act} {w : World} (h : c.wp P (Exit.then K fun _ _ _ => False) a w) : c.wp P (Exit.then K Q) a w :=
  wp_mono h (fun e a' w' q => by cases e <;> first | exact q | exact q.elim)
theorem wp_pushZ {P : Program} (w : World) {o : Oper} {a : Act} {K : Act → World → Prop} {Q : Exit → Act → World → Prop} (s x : Operand) (t : TypeId)
    (ho : o.op = .call { callee := .builtin .append, args := #[s, x], argTypes := #[t, t] })
    (base : Nat) (E : TypeId) (k : IntKind) (bytes : Nat) (ht : P.underlying t = some (.slice E)) (hi : (P.info? E).map (fun i => (i.zero, i.size, i.bytes)) = some (some (.int k 0), 1, bytes))
    (v : Value) (zs : List Int) (hs : a.eval s = v) (hown : OwnZ base E k w v zs)
    (ad : Addr) (n : Int) (hx : a.eval x = .slice (some ad) 1 1) (hc : w.cell? ad = some (.int k n))
    (hlen : (zs.length + 1) * bytes ≤ 140737488355328) (hb : 0 < bytes) (hbase : base ≤ w.heap.size)
    (h : ∀ v' w', OwnZ base E k w' v' (zs ++ [n]) → w.grownBy w' v.ownBlock → K (a.put o.dst v') w') : o.wp P a w K Q := by
  obtain ⟨i, hi0, hz0, hz1, hz2⟩ := info_parts hi
  refine wp_append_own w s x t ho base E i (.int k 0) 1 bytes ht hi0 hz0 hz1 hz2 rfl (by decide) v zs.length (cellsZ k zs) hs hown ad 1 1 [.int k n] hx rfl ?_ ?_ ?_ hlen hbase ?_
  · intro j u hj
    match j, hj with
    | 0, hj => simp at hj; subst hj; simpa [Addr.add] using hc
  · intro u hu; simp at hu; subst hu; rfl
  · have := Nat.le_mul_of_pos_right (zs.length + 1) hb
    unfold maxLen; omega
  · intro v' w' h1 h2 _
    refine h v' w' ?_ h2
    unfold OwnZ cellsZ
    simpa [cellsZ] using h1
noncomputable def sdOps : Array Oper := (Tryz.f47.body.map (regOps 12)).getD #[]
noncomputable def sdCode : Code := (Tryz.f47.body.bind (regCode 12)).getD .skip
theorem sd_ahead {L : Nat → Bool} (hc : ∀ j k, L j = true → waitsAt sdOps j k = true → L k = true) (h : L 20 = true) : ∀ i, i < 20 → L i = true := by
  have h19 := hc 20 19 h (by kernel_rfl)
  have h18 := hc 20 18 h (by kernel_rfl)
  have h1 := hc 20 1 h (by kernel_rfl)
  have h0 := hc 1 0 h1 (by kernel_rfl)
  have h17 := hc 18 17 h18 (by kernel_rfl)
  have h12 := hc 18 12 h18 (by kernel_rfl)
  have h16 := hc 17 16 h17 (by kernel_rfl)
  have h15 := hc 16 15 h16 (by kernel_rfl)
  have h13 := hc 16 13 h16 (by kernel_rfl)
  have h14 := hc 15 14 h15 (by kernel_rfl)
  have h11 := hc 12 11 h12 (by kernel_rfl)
  have h6 := hc 12 6 h12 (by kernel_rfl)
  have h2 := hc 12 2 h12 (by kernel_rfl)
  have h10 := hc 11 10 h11 (by kernel_rfl)
  have h9 := hc 10 9 h10 (by kernel_rfl)
  have h7 := hc 10 7 h10 (by kernel_rfl)
  have h8 := hc 9 8 h9 (by kernel_rfl)
  have h5 := hc 6 5 h6 (by kernel_rfl)
  have h4 := hc 5 4 h5 (by kernel_rfl)
  have h3 := hc 5 3 h5 (by kernel_rfl)
  intro i hi
  match i, hi with
  | 0, _ => exact h0
  | 1, _ => exact h1
  | 2, _ => exact h2
  | 3, _ => exact h3
  | 4, _ => exact h4
  | 5, _ => exact h5
  | 6, _ => exact h6
  | 7, _ => exact h7
  | 8, _ => exact h8
  | 9, _ => exact h9
  | 10, _ => exact h10
  | 11, _ => exact h11
  | 12, _ => exact h12
  | 13, _ => exact h13
  | 14, _ => exact h14
  | 15, _ => exact h15
  | 16, _ => exact h16
  | 17, _ => exact h17
  | 18, _ => exact h18
  | 19, _ => exact h19
  | n + 20, hn => exact absurd hn (by omega)
section
/-- What the operations of one field's reading leave. -/
def SdS (sb lb lo k p : Nat) (v' pay lv : Value) (Z y : Int) (T : List Nat) (zs : List Int) (L : Nat → Bool) (i : Nat) (w : World) (v : Value) : Prop :=
  match i with
  | 0 => v = .pointer (some ⟨sb, 1, none⟩)
  | 1 => v = v'
  | 2 => v = pay
  | 3 => v = lv
  | 4 => v = .int .i64 ((2 * k : Nat) : Int)
  | 5 => v = .pointer (some ⟨lb, lo + 2 * k, none⟩)
  | 6 => v = .int .i64 (p : Nat)
  | 7 => v = lv
  | 8 => v = .int .i64 ((2 * k : Nat) : Int)
  | 9 => v = .int .i64 ((2 * k + 1 : Nat) : Int)
  | 10 => v = .pointer (some ⟨lb, lo + (2 * k + 1), none⟩)
  | 11 => v = .int .i64 Z
  | 13 => v = lv
  | 14 => v = .int .i64 ((2 * k : Nat) : Int)
  | 15 => v = .int .i64 ((2 * k + 1 : Nat) : Int)
  | 16 => v = .pointer (some ⟨lb, lo + (2 * k + 1), none⟩)
  | 17 => v = .int .i64 Z
  | 18 => v = .int .i64 y
  | 21 => v = .pointer (some ⟨sb, 1, none⟩)
  | 12 => L 20 = false → Row .u8 w v T
  | 19 => L 20 = false → ∃ b, v = .slice (some ⟨b, 0, none⟩) 1 1 ∧ w.cell? ⟨b, 0, none⟩ = some (.int .i64 y) ∧ b < w.heap.size
  | 20 => L 22 = false → OwnZ (sb + 1) 2 .i64 w v (zs ++ [y])
  | _ => True
/-- What holds of the world. -/
def SdG (sb : Nat) (x0 : Value) (y : Int) (zs : List Int) (W : World) (L : Nat → Bool) (w : World) : Prop :=
  if L 22 = true then ∃ v2, OwnZ (sb + 1) 2 .i64 w v2 (zs ++ [y]) ∧ TwoC w sb x0 v2 ∧ Far (fun x => sb ≤ x) W w
  else if L 20 = true then Far (fun x => sb + 1 ≤ x) W w else Grew W w
variable {sb lb lo k p : Nat} {v' pay lv x0 : Value} {Z y : Int} {T : List Nat} {zs : List Int}
theorem SdS.also {L : Nat → Bool} {i j : Nat} {w w' : World} {v : Value} (h : SdS sb lb lo k p v' pay lv Z y T zs L i w v) (g : Grew w w') (hj : j ≠ 22) (hj2 : j ≠ 20) : SdS sb lb lo k p v' pay lv Z y T zs (also L j) i w' v := by
  unfold SdS at h ⊢
  split at h
  · exact h
  · exact h
  · exact h
  · exact h
  · exact h
  · exact h
  · exact h
  · exact h
  · exact h
  · exact h
  · exact h
  · exact h
  · exact h
  · exact h
  · exact h
  · exact h
  · exact h
  · exact h
  · exact h
  · rw [also_ne (Ne.symm hj2)]; exact fun q => (h q).grew g
  · rw [also_ne (Ne.symm hj2)]
    intro q
    obtain ⟨b, e, hc, hb⟩ := h q
    exact ⟨b, e, (g.cell (p := ⟨b, 0, none⟩) hb).trans hc, Nat.lt_of_lt_of_le hb g.size⟩
  · rw [also_ne (Ne.symm hj)]; exact fun q => (h q).grew g
  · trivial
theorem sd_of {P : Program} {Q : Exit → Act → World → Prop} {o : Oper} {a : Act} {w W : World} {L : Nat → Bool} {i : Nat}
    (hc : ∀ j k, L j = true → waitsAt sdOps j k = true → L k = true) (hL : L i = false) (hi : i < 20)
    (hd : ∀ j d, L j = true → writes sdOps j d = true → SdS sb lb lo k p v' pay lv Z y T zs L j w (a.tmps[d]?.getD undef)) (g : SdG sb x0 y zs W L w)
    (h : Grew W w → o.wp P a w (fun a' w'' => ∃ v, a' = a.put o.dst v ∧ SdS sb lb lo k p v' pay lv Z y T zs (also L i) i w'' v ∧ Grew w w'') Q) :
    o.wp P a w (fun a' w' => ∃ v, a' = a.put o.dst v ∧ (∀ d, o.dst = some d → SdS sb lb lo k p v' pay lv Z y T zs (also L i) i w' v) ∧ (∀ j d, L j = true → writes sdOps j d = true → SdS sb lb lo k p v' pay lv Z y T zs (also L i) j w' (a.tmps[d]?.getD undef)) ∧ SdG sb x0 y zs W (also L i) w') Q := by
  have h20 : L 20 = false := by
    cases q : L 20 with
    | false => rfl
    | true => rw [sd_ahead hc q i hi] at hL; cases hL
  have h22 : L 22 = false := by
    cases q : L 22 with
    | false => rfl
    | true => rw [hc 22 20 q (by kernel_rfl)] at h20; cases h20
  unfold SdG at g
  rw [h22, h20, if_neg (by decide), if_neg (by decide)] at g
  refine Oper.wp_mono ?_ (h g)
  rintro a' w' ⟨v, h1, h2, h3⟩
  refine ⟨v, h1, fun _ _ => h2, fun j d hl hw => (hd j d hl hw).also h3 (by omega) (by omega), ?_⟩
  unfold SdG
  rw [also_ne (by omega), also_ne (by omega), h22, h20, if_neg (by decide), if_neg (by decide)]
  exact g.trans h3
end
set_option maxRecDepth 1000000 in
set_option maxHeartbeats 8000000 in
theorem srf_round {sb lb lo k p m ln sc lc : Nat} {neg : Bool} {v' x0 : Value} {SA : Option Addr} {y : Int} {S : List Nat} {zs : List Int} {W : World} (a0 : Act)
    (hS : Hid (Row .u8 W (.slice SA S.length sc) S)) (hB : Hid (Bytes S)) (hpm : p + m ≤ S.length) (hm : 0 < m ∧ m ≤ 4) (hl : S.length ≤ 100000)
    (hlb : lb < W.heap.size) (c1 : Hid (W.cell? ⟨lb, lo + 2 * k, none⟩ = some (.int .i64 (p : Nat)))) (c2 : Hid (W.cell? ⟨lb, lo + (2 * k + 1), none⟩ = some (.int .i64 (if neg then -(m : Int) else (m : Int))))) (hk : 2 * k + 1 < ln) (hk2 : ln ≤ 24)
    (hT : Hid (TwoC W sb x0 v')) (hO : Hid (OwnZ (sb + 1) 2 .i64 W v' zs)) (hzl : zs.length ≤ 24) (hy : Hid (getZ (turnTo S p m m) 0 (if neg then -(m : Int) else (m : Int)) = y))
    (hn : a0.tmps.size = 60) (e0 : a0.tmps[0]?.getD undef = .slice SA S.length sc) (e5 : a0.tmps[5]?.getD undef = .slice (some ⟨lb, lo, none⟩) ln lc) (e6 : a0.tmps[6]?.getD undef = .pointer (some ⟨sb, 0, none⟩)) (e7 : a0.tmps[7]?.getD undef = .int .i64 ((2 * k : Nat) : Int))
    (K0 : Act → World → Prop)
    (post : ∀ (a : Act) (w' : World), a.defers = a0.defers → a.tmps.size = 60 → (∀ k, freeSlotA sdOps k = true → a.tmps[k]?.getD undef = a0.tmps[k]?.getD undef) →
      (∃ v2, OwnZ (sb + 1) 2 .i64 w' v2 (zs ++ [y]) ∧ TwoC w' sb x0 v2 ∧ Far (fun x => sb ≤ x) W w') → K0 a w') :
    Code.wp Tryz.prog sdCode (Exit.then K0 fun _ _ _ => False) a0 W := by
  have i1 : 2 * (k : Int) < ln := by omega
  have i2 : 2 * (k : Int) + 1 < ln := by omega
  have i3 : 0 ≤ 2 * (k : Int) := by omega
  have i4 : 0 ≤ 2 * (k : Int) + 1 := by omega
  have i5 : IntKind.i64.wrap (2 * (k : Int) + 1) = 2 * (k : Int) + 1 := IntWalk.i64_in _ (by omega)
  have i6 : (2 * (k : Int)).toNat = 2 * k := by omega
  have i7 : (2 * (k : Int) + 1).toNat = 2 * k + 1 := by omega
  conv => arg 2; whnf
  refine wp_region_fillG (n := 60) (ops := sdOps) (by kernel_rfl) (fun L i w' v => SdS sb lb lo k p v' (.slice SA S.length sc) (.slice (some ⟨lb, lo, none⟩) ln lc) (if neg then -(m : Int) else (m : Int)) y (turnTo S p m m) zs L i w' v) (fun L w' => SdG sb x0 y zs W L w') ?_ ?_ ?_ ?_ ?_ ?_
  case refine_1 => kernel_rfl
  case refine_2 => kernel_rfl
  case refine_3 => exact hn
  case refine_4 =>
    intro L hL
    unfold SdG
    rw [hL, hL, if_neg (by decide), if_neg (by decide)]
    exact (Grew.refl W).drew
  case refine_6 =>
    intro L a w' hL hdef hsz ho hd g
    unfold SdG at g
    rw [if_pos (hL 22 (of_decide_eq_true (by kernel_rfl)))] at g
    exact post a w' hdef hsz ho g
  simp only [AllFrom]
  refine ⟨?_, ?_, ?_, ?_, ?_, ?_, ?_, ?_, ?_, ?_, ?_, ?_, ?_, ?_, ?_, ?_, ?_, ?_, ?_, ?_, ?_, ?_, ?_, trivial⟩
  · intro L c w' hL ho hw hc hd g
    have e6 : c.tmps[6]?.getD undef = _ := (ho 6 (by kernel_rfl)).trans e6
    refine sd_of hc hL (by decide) hd g (fun g => each_value (v := .pointer (some ⟨sb, 1, none⟩)) ?_ rfl)
    simp [execOp, go_sem, e6]
  · intro L c w' hL ho hw hc hd g
    have x : c.tmps[37]?.getD undef = .pointer (some ⟨sb, 1, none⟩) := hd 0 37 (hw 0 (by kernel_rfl)) (by kernel_rfl)
    refine sd_of hc hL (by decide) hd g (fun g => ?_)
    have hc1 := (hT.out.grew g).c1
    refine each_value (v := v') ?_ rfl
    obtain ⟨A, cc, rfl, _⟩ := hO.out.row.form
    simp [execOp, go_sem, x, hc1]
  · intro L c w' hL ho hw hc hd g
    have e0 : c.tmps[0]?.getD undef = _ := (ho 0 (by kernel_rfl)).trans e0
    refine sd_of hc hL (by decide) hd g (fun g => each_value (v := .slice SA S.length sc) ?_ rfl)
    simp [execOp, go_sem, e0]
  · intro L c w' hL ho hw hc hd g
    have e5 : c.tmps[5]?.getD undef = _ := (ho 5 (by kernel_rfl)).trans e5
    refine sd_of hc hL (by decide) hd g (fun g => each_value (v := .slice (some ⟨lb, lo, none⟩) ln lc) ?_ rfl)
    simp [execOp, go_sem, e5]
  · intro L c w' hL ho hw hc hd g
    have e7 : c.tmps[7]?.getD undef = _ := (ho 7 (by kernel_rfl)).trans e7
    refine sd_of hc hL (by decide) hd g (fun g => each_value (v := .int .i64 ((2 * k : Nat) : Int)) ?_ rfl)
    simp [execOp, go_sem, e7]
  · intro L c w' hL ho hw hc hd g
    have x : c.tmps[40]?.getD undef = .slice (some ⟨lb, lo, none⟩) ln lc := hd 3 40 (hw 3 (by kernel_rfl)) (by kernel_rfl)
    have z : c.tmps[41]?.getD undef = .int .i64 ((2 * k : Nat) : Int) := hd 4 41 (hw 4 (by kernel_rfl)) (by kernel_rfl)
    refine sd_of hc hL (by decide) hd g (fun g => each_value (v := .pointer (some ⟨lb, lo + 2 * k, none⟩)) ?_ rfl)
    simp [execOp, go_sem, x, z, i1, i3, i6]
  · intro L c w' hL ho hw hc hd g
    have x : c.tmps[42]?.getD undef = .pointer (some ⟨lb, lo + 2 * k, none⟩) := hd 5 42 (hw 5 (by kernel_rfl)) (by kernel_rfl)
    refine sd_of hc hL (by decide) hd g (fun g => ?_)
    have hc1 := (g.cell (p := ⟨lb, lo + 2 * k, none⟩) hlb).trans c1.out
    refine each_value (v := .int .i64 (p : Nat)) ?_ rfl
    simp [execOp, go_sem, x, hc1]
  · intro L c w' hL ho hw hc hd g
    have e5 : c.tmps[5]?.getD undef = _ := (ho 5 (by kernel_rfl)).trans e5
    refine sd_of hc hL (by decide) hd g (fun g => each_value (v := .slice (some ⟨lb, lo, none⟩) ln lc) ?_ rfl)
    simp [execOp, go_sem, e5]
  · intro L c w' hL ho hw hc hd g
    have e7 : c.tmps[7]?.getD undef = _ := (ho 7 (by kernel_rfl)).trans e7
    refine sd_of hc hL (by decide) hd g (fun g => each_value (v := .int .i64 ((2 * k : Nat) : Int)) ?_ rfl)
    simp [execOp, go_sem, e7]
  · intro L c w' hL ho hw hc hd g
    have x : c.tmps[45]?.getD undef = .int .i64 ((2 * k : Nat) : Int) := hd 8 45 (hw 8 (by kernel_rfl)) (by kernel_rfl)
    refine sd_of hc hL (by decide) hd g (fun g => each_value (v := .int .i64 ((2 * k + 1 : Nat) : Int)) ?_ rfl)
    simp [execOp, go_sem, x, i5]
  · intro L c w' hL ho hw hc hd g
    have x : c.tmps[44]?.getD undef = .slice (some ⟨lb, lo, none⟩) ln lc := hd 7 44 (hw 7 (by kernel_rfl)) (by kernel_rfl)
    have z : c.tmps[46]?.getD undef = .int .i64 ((2 * k + 1 : Nat) : Int) := hd 9 46 (hw 9 (by kernel_rfl)) (by kernel_rfl)
    refine sd_of hc hL (by decide) hd g (fun g => each_value (v := .pointer (some ⟨lb, lo + (2 * k + 1), none⟩)) ?_ rfl)
    simp [execOp, go_sem, x, z, i2, i4, i7]
  · intro L c w' hL ho hw hc hd g
    have x : c.tmps[47]?.getD undef = .pointer (some ⟨lb, lo + (2 * k + 1), none⟩) := hd 10 47 (hw 10 (by kernel_rfl)) (by kernel_rfl)
    refine sd_of hc hL (by decide) hd g (fun g => ?_)
    have hc1 := (g.cell (p := ⟨lb, lo + (2 * k + 1), none⟩) hlb).trans c2.out
    refine each_value (v := .int .i64 (if neg then -(m : Int) else (m : Int))) ?_ rfl
    simp [execOp, go_sem, x, hc1]
  · intro L c w' hL ho hw hc hd g
    have x : c.tmps[39]?.getD undef = .slice SA S.length sc := hd 2 39 (hw 2 (by kernel_rfl)) (by kernel_rfl)
    have z : c.tmps[43]?.getD undef = .int .i64 (p : Nat) := hd 6 43 (hw 6 (by kernel_rfl)) (by kernel_rfl)
    have u : c.tmps[48]?.getD undef = .int .i64 (if neg then -(m : Int) else (m : Int)) := hd 11 48 (hw 11 (by kernel_rfl)) (by kernel_rfl)
    refine sd_of hc hL (by decide) hd g (fun g => ?_)
    refine each_call (f := 70) (args := #[.slice SA S.length sc, .int .i64 (p : Nat), .int .i64 (if neg then -(m : Int) else (m : Int))]) (by simp [go_sem, x, z, u]) ((ref13_turned _ S p m neg w' (hS.out.grew g) hB.out hpm hm hl).mono ?_)
    rintro e w'' ⟨v, rfl, ho', g'⟩
    exact ⟨_, rfl, fun _ => ho'.row, g'⟩
  · intro L c w' hL ho hw hc hd g
    have e5 : c.tmps[5]?.getD undef = _ := (ho 5 (by kernel_rfl)).trans e5
    refine sd_of hc hL (by decide) hd g (fun g => each_value (v := .slice (some ⟨lb, lo, none⟩) ln lc) ?_ rfl)
    simp [execOp, go_sem, e5]
  · intro L c w' hL ho hw hc hd g
    have e7 : c.tmps[7]?.getD undef = _ := (ho 7 (by kernel_rfl)).trans e7
    refine sd_of hc hL (by decide) hd g (fun g => each_value (v := .int .i64 ((2 * k : Nat) : Int)) ?_ rfl)
    simp [execOp, go_sem, e7]
  · intro L c w' hL ho hw hc hd g
    have x : c.tmps[51]?.getD undef = .int .i64 ((2 * k : Nat) : Int) := hd 14 51 (hw 14 (by kernel_rfl)) (by kernel_rfl)
    refine sd_of hc hL (by decide) hd g (fun g => each_value (v := .int .i64 ((2 * k + 1 : Nat) : Int)) ?_ rfl)
    simp [execOp, go_sem, x, i5]
  · intro L c w' hL ho hw hc hd g
    have x : c.tmps[50]?.getD undef = .slice (some ⟨lb, lo, none⟩) ln lc := hd 13 50 (hw 13 (by kernel_rfl)) (by kernel_rfl)
    have z : c.tmps[52]?.getD undef = .int .i64 ((2 * k + 1 : Nat) : Int) := hd 15 52 (hw 15 (by kernel_rfl)) (by kernel_rfl)
    refine sd_of hc hL (by decide) hd g (fun g => each_value (v := .pointer (some ⟨lb, lo + (2 * k + 1), none⟩)) ?_ rfl)
    simp [execOp, go_sem, x, z, i2, i4, i7]
  · intro L c w' hL ho hw hc hd g
    have x : c.tmps[53]?.getD undef = .pointer (some ⟨lb, lo + (2 * k + 1), none⟩) := hd 16 53 (hw 16 (by kernel_rfl)) (by kernel_rfl)
    refine sd_of hc hL (by decide) hd g (fun g => ?_)
    have hc1 := (g.cell (p := ⟨lb, lo + (2 * k + 1), none⟩) hlb).trans c2.out
    refine each_value (v := .int .i64 (if neg then -(m : Int) else (m : Int))) ?_ rfl
    simp [execOp, go_sem, x, hc1]
  · intro L c w' hL ho hw hc hd g
    have u : c.tmps[54]?.getD undef = .int .i64 (if neg then -(m : Int) else (m : Int)) := hd 17 54 (hw 17 (by kernel_rfl)) (by kernel_rfl)
    refine sd_of hc hL (by decide) hd g (fun g => ?_)
    have h20 : L 20 = false := by
      cases q : L 20 with
      | false => rfl
      | true => rw [sd_ahead hc q 18 (by decide)] at hL; cases hL
    have hr : Row .u8 w' (c.tmps[49]?.getD undef) (turnTo S p m m) := hd 12 49 (hw 12 (by kernel_rfl)) (by kernel_rfl) h20
    refine each_call (f := 68) (args := #[c.tmps[49]?.getD undef, .int .i64 ((0 : Nat) : Int), .int .i64 (if neg then -(m : Int) else (m : Int))]) (by simp [go_sem, u]) ((ref12_Get _ (turnTo S p m m) 0 m neg w' hr (turnTo_bytes hB.out _ _ _) (by rw [turnTo_length]; omega) hm (by rw [turnTo_length]; omega)).mono ?_)
    rintro e w'' ⟨rfl, g'⟩
    rw [hy.out]
    exact ⟨_, rfl, rfl, g'⟩
  · intro L c w' hL ho hw hc hd g
    have x : c.tmps[55]?.getD undef = .int .i64 y := hd 18 55 (hw 18 (by kernel_rfl)) (by kernel_rfl)
    refine sd_of hc hL (by decide) hd g (fun g => ?_)
    refine each_made (v := .slice (some ⟨w'.heap.size, 0, none⟩) 1 1) (w1 := w'.alloc (.cells #[.int .i64 y] 2)) ?_ ((Grew.refl _).alloc _) (fun _ => ⟨_, rfl, by simp, by simp⟩)
    simp [execOp, go_sem, x]
  · intro L c w' hL ho hw hc hd g
    have x : c.tmps[38]?.getD undef = v' := hd 1 38 (hw 1 (by kernel_rfl)) (by kernel_rfl)
    have h22 : L 22 = false := by
      cases q : L 22 with
      | false => rfl
      | true => rw [hc 22 20 q (by kernel_rfl)] at hL; cases hL
    obtain ⟨b, e56, hcb, hbb⟩ := hd 19 56 (hw 19 (by kernel_rfl)) (by kernel_rfl) hL
    have g' := g
    unfold SdG at g'
    rw [h22, hL, if_neg (by decide), if_neg (by decide)] at g'
    have hOW := hO.out.grew g'
    refine Oper.wp_mono ?_ (wp_pushZ (K := fun a' w'' => ∃ v, a' = c.put (some 57) v ∧ OwnZ (sb + 1) 2 .i64 w'' v (zs ++ [y]) ∧ Far (fun x => sb + 1 ≤ x) W w'') w' (.tmp 38) (.tmp 56) 34 rfl (sb + 1) 2 .i64 8 Tryz.underlying34 infoI64 v' zs (by simpa [go_sem] using x) hOW ⟨b, 0, none⟩ y (by simpa [go_sem] using e56) hcb (by omega) (by decide) (Nat.le_trans (Nat.succ_le_of_lt hT.out.lt) g'.size) (fun v'' w'' h1 h2 => ⟨v'', rfl, h1, (Far.of_grew g').trans (far_of_own hOW h2)⟩))
    rintro a' w'' ⟨v2, rfl, hv2, hf2⟩
    have e20 : also L 20 20 = true := by unfold also; simp
    have e22 : also L 20 22 = false := by rw [also_ne (by decide)]; exact h22
    refine ⟨v2, rfl, fun _ _ => fun _ => hv2, fun j d hl hwr => ?_, ?_⟩
    · have h := hd j d hl hwr
      have hj : j ≠ 20 := fun e => by subst e; rw [hL] at hl; cases hl
      show SdS _ _ _ _ _ _ _ _ _ _ _ _ (also L 20) j w'' _
      have h : SdS sb lb lo k p v' (.slice SA S.length sc) (.slice (some ⟨lb, lo, none⟩) ln lc) (if neg then -(m : Int) else (m : Int)) y (turnTo S p m m) zs L j w' (c.tmps[d]?.getD undef) := h
      unfold SdS at h ⊢
      split at h
      all_goals first
        | exact h
        | (intro q; rw [e20] at q; cases q)
        | exact absurd rfl hj
    · show SdG sb x0 y zs W (also L 20) w''
      unfold SdG
      rw [e22, e20, if_neg (by decide), if_pos rfl]
      exact hf2
  · intro L c w' hL ho hw hc hd g
    have e6 : c.tmps[6]?.getD undef = _ := (ho 6 (by kernel_rfl)).trans e6
    have h20 : L 20 = true := hw 20 (by kernel_rfl)
    have hex : ∀ o : Oper, o.op = .fieldAddr 68 (.tmp 6) 1 → (execOp c.eval o).run Tryz.prog w' = .ok (.value (.pointer (some ⟨sb, 1, none⟩))) w' := fun o ho => by
      simp [execOp, ho, go_sem, e6]
    have h22 : L 22 = false := by
      cases q : L 22 with
      | false => rfl
      | true => rw [hc 22 21 q (by kernel_rfl)] at hL; cases hL
    unfold Oper.wp
    rw [hex _ rfl]
    refine ⟨_, rfl, fun _ _ => rfl, fun j d hl hwr => SdS.also (hd j d hl hwr) (Grew.refl _) (by decide) (by decide), ?_⟩
    have g' := g
    unfold SdG at g'
    rw [h22, h20, if_neg (by decide), if_pos rfl] at g'
    show SdG sb x0 y zs W (also L 21) w'
    unfold SdG
    rw [also_ne (by decide), also_ne (by decide), h22, h20, if_neg (by decide), if_pos rfl]
    exact g'
  · intro L c w' hL ho hw hc hd g
    have h20 : L 20 = true := hw 20 (by kernel_rfl)
    have e58 : c.tmps[58]?.getD undef = .pointer (some ⟨sb, 1, none⟩) := hd 21 58 (hw 21 (by kernel_rfl)) (by kernel_rfl)
    have hv : OwnZ (sb + 1) 2 .i64 w' (c.tmps[57]?.getD undef) (zs ++ [y]) := hd 20 57 h20 (by kernel_rfl) hL
    have g' := g
    unfold SdG at g'
    rw [hL, h20, if_neg (by decide), if_pos rfl] at g'
    have hT' := hT.out.far g' (by show ¬ sb + 1 ≤ sb; omega)
    obtain ⟨A, cc, e57, _⟩ := hv.row.form
    obtain ⟨N, hN⟩ : ∃ N, (zs ++ [y]).length = N := ⟨_, rfl⟩
    rw [hN] at e57
    rw [e57] at hv
    have hc1 := hT'.c1
    have hf1 := hT'.f1
    have hex : ∀ o : Oper, o.op = .store 34 (.tmp 58) (.tmp 57) → (execOp c.eval o).run Tryz.prog w' = .ok .skip (w'.setCell ⟨sb, 1, none⟩ (.slice A N cc)) := fun o ho => by
      simp [execOp, ho, go_sem, e58, e57, hc1, hf1]
    have F1 := (Far.refl (fun x => x = sb) w').setCell (p := ⟨sb, 1, none⟩) rfl (.slice A N cc)
    unfold Oper.wp
    rw [hex _ rfl]
    have e22 : also L 22 22 = true := by unfold also; simp
    have e20 : also L 22 20 = true := by rw [also_ne (by decide)]; exact h20
    refine ⟨undef, rfl, fun d hd' => (by cases hd'), fun j d hl hwr => ?_, ?_⟩
    · have h : SdS sb lb lo k p v' (.slice SA S.length sc) (.slice (some ⟨lb, lo, none⟩) ln lc) (if neg then -(m : Int) else (m : Int)) y (turnTo S p m m) zs L j w' (c.tmps[d]?.getD undef) := hd j d hl hwr
      show SdS sb lb lo k p v' (.slice SA S.length sc) (.slice (some ⟨lb, lo, none⟩) ln lc) (if neg then -(m : Int) else (m : Int)) y (turnTo S p m m) zs (also L 22) j _ (c.tmps[d]?.getD undef)
      unfold SdS at h ⊢
      split at h
      all_goals first
        | exact h
        | (intro q; rw [e20] at q; cases q)
        | (intro q; rw [e22] at q; cases q)
    · show SdG sb x0 y zs W (also L 22) _
      unfold SdG
      rw [e22, if_pos rfl]
      exact ⟨.slice A N cc, hv.far F1 (fun x hx e => by have := hv.lt x hx; have e : x = sb := e; omega), hT'.put1 _, (g'.mono (G := fun x => sb ≤ x) (fun x _ h => Nat.le_of_succ_le h)).setCell (p := ⟨sb, 1, none⟩) (Nat.le_refl _) _⟩
end Go.Proofs.YtnhigfkhdmkoeaaGreatDoor

namespace Go.Proofs.YtnhigfkhdmkoeaaGreatDoor
open Go.RowKit
set_option linter.unusedVariables false

theorem arr_getS {α : Type} (t : Array α) (d : α) {n : Nat} (h : t.size = n) : t = ((List.range n).map fun k => t[k]?.getD d).toArray := by
  refine Array.ext (by simpa using h) fun i h1 h2 => ?_
  simp [h1]
theorem wp_norm {P : Program} {c : Code} {Q : Exit → Act → World → Prop} {a : Act} {w : World} (h : c.wp P (Exit.then (fun a w => Q .normal a w) fun _ _ _ => False) a w) : c.wp P Q a w :=
  wp_mono h (fun e a' w' q => by cases e <;> first | exact q | exact q.elim)
theorem srf_field (c k : Nat) (h : 2 * k + 1 < (srfLay c).2.length) : ∃ (p m : Nat) (neg : Bool), zi (srfLay c).2 (2 * k) = (p : Nat) ∧ zi (srfLay c).2 (2 * k + 1) = (if neg then -(m : Int) else (m : Int)) ∧ (0 < m ∧ m ≤ 4) ∧ 1 ≤ p ∧ p + m ≤ (srfLay c).1 := by
  have hok := srf_layOk c
  obtain ⟨h1, h2⟩ := hok.size k h
  obtain ⟨h3, h4⟩ := hok.in_ k h
  by_cases hn : zi (srfLay c).2 (2 * k + 1) < 0
  · exact ⟨(zi (srfLay c).2 (2 * k)).toNat, (zi (srfLay c).2 (2 * k + 1)).natAbs, true, by omega, by simp only [if_true]; omega, by omega, by omega, by omega⟩
  · exact ⟨(zi (srfLay c).2 (2 * k)).toNat, (zi (srfLay c).2 (2 * k + 1)).natAbs, false, by omega, by simp only [Bool.false_eq_true, if_false]; omega, by omega, by omega, by omega⟩
/-- What reading a payload tells. -/
def DecS (r : Nat × List Int × Nat) (w : World) (e : Ending) (w' : World) : Prop :=
  ∃ v, e = .returned (.tuple #[.agg #[.int .u8 (r.1 : Nat), v], .int .i64 (r.2.2 : Nat)]) ∧ RowZ .i64 w' v r.2.1 ∧ (0 < r.2.1.length → ∀ x, v.ownBlock = some x → w.heap.size ≤ x) ∧ Grew w w'
theorem decS_no {er : Nat} {w w' : World} (g : Grew w w') : DecS (0, [], er) w (.returned (.tuple #[.agg #[.int .u8 0, .slice none 0 0], .int .i64 (er : Nat)])) w' :=
  ⟨_, rfl, RowZ.nil _ _, (fun q => absurd q (by simp)), g⟩
-- [DEC
set_option maxRecDepth 100000 in
set_option maxHeartbeats 8000000 in
theorem ref13_Decode (v : Value) (S : List Nat) (w : World) (hr : Row .u8 w v S) (hB : Bytes S) (hl : S.length ≤ 100000) :
    Calls Tryz.prog 47 #[v] w (DecS (srfDec S) w) := by
  have hdec : srfDec S = if S.length = 0 then (0, [], 4) else if (srfLay (wd S 0)).1 = 0 then (0, [], 7) else if S.length ≠ (srfLay (wd S 0)).1 then (0, [], 5) else (wd S 0, bvalsTo S (srfLay (wd S 0)).2 ((srfLay (wd S 0)).2.length / 2), 0) := rfl
  have hm0 := hB 0
  have HL := fun w => ref13_Layout (wd S 0) w hm0
  have HF := srf_field (wd S 0)
  have hev := (srf_layOk (wd S 0)).even
  generalize srfDec S = r at *
  generalize (srfLay (wd S 0)).1 = n at *
  generalize (srfLay (wd S 0)).2 = l at *
  replace HL := fun w => Lib.hid (HL w)
  have HR := Lib.hid hr
  obtain ⟨SA, sc, rfl, hsc⟩ := hr.form
  go_enter Tryz.func47, Tryz.ntmps47
  go_upto_region 1 with fail
  obtain ⟨W, hW, g0, T0⟩ := twoC_new w (.int .u8 0) (.slice none 0 0) 68
  rw [hW]
  clear hW
  have T0' := Lib.hid T0
  obtain ⟨_, r0, r1, q0, q1⟩ := T0
  by_cases hS0 : S.length = 0
  · have HP0 : Hid (r = (0, [], 4)) := Lib.hid (by rw [hdec, if_pos hS0])
    have z0 : (S.length : Int) = 0 := by omega
    clear hdec hr
    go_wp2_with fail
    refine bodyPost_ret (by simp [results, Tryz.results47, go_sem, r0, r1]; try rfl) rfl ?_
    rw [HP0.out]
    exact decS_no (twoC_put g0 (Nat.le_refl _) _ _)
  · have z0 : ¬ (S.length : Int) = 0 := by omega
    have hSp : 0 < S.length := by omega
    obtain ⟨pb, po, e, hpb, hpc⟩ := (by obtain ⟨A', c', e', _, hcl⟩ := hr; simp only [Value.slice.injEq] at e'; obtain ⟨b, o, e2, hb, hc⟩ := hcl hSp; exact ⟨b, o, e'.1.trans e2, hb, hc 0 hSp⟩ : ∃ b o, SA = some ⟨b, o, none⟩ ∧ b < w.heap.size ∧ w.cell? ⟨b, o + 0, none⟩ = some (.int .u8 (wd S 0 : Nat)))
    subst e
    rw [Nat.add_zero] at hpc
    have hx0 := (g0.cell (p := ⟨pb, po, none⟩) hpb).trans hpc
    clear hr
    go_upto_region 4 with (go_at_call 69; refine (HL _).out.mono ?_; rintro e w1 ⟨lv, rfl, hlv, g1⟩)
    obtain ⟨LA, lc, rfl, hlc⟩ := hlv.form
    obtain ⟨_, r0, r1, q0, q1⟩ := T0'.out.grew g1
    by_cases hn0 : n = 0
    · have HP0 : Hid (r = (0, [], 7)) := Lib.hid (by rw [hdec, if_neg hS0, if_pos hn0])
      subst hn0
      clear hdec
      go_wp2_with fail
      refine bodyPost_ret (by simp [results, Tryz.results47, go_sem, r0, r1]; try rfl) rfl ?_
      rw [HP0.out]
      exact decS_no (twoC_put (g0.trans g1) (Nat.le_refl _) _ _)
    · have n0 : ¬ (n : Int) = 0 := by omega
      by_cases hne : S.length ≠ n
      · have HP0 : Hid (r = (0, [], 5)) := Lib.hid (by rw [hdec, if_neg hS0, if_neg hn0, if_pos hne])
        have n1 : ¬ (S.length : Int) = n := by omega
        clear hdec
        go_wp2_with fail
        refine bodyPost_ret (by simp [results, Tryz.results47, go_sem, r0, r1]; try rfl) rfl ?_
        rw [HP0.out]
        exact decS_no (twoC_put (g0.trans g1) (Nat.le_refl _) _ _)
      · obtain rfl : n = S.length := by omega
        have HPO : Hid (r = (wd S 0, bvalsTo S l (l.length / 2), 0)) := Lib.hid (by rw [hdec, if_neg hS0, if_neg hn0, if_neg hne])
        have hx1 := (g1.cell (p := ⟨pb, po, none⟩) (Nat.lt_of_lt_of_le hpb g0.size)).trans hx0
        clear hdec hne
        generalize wd S 0 = M0 at *
        go_upto_region 9 with fail
        obtain ⟨V, hV, gV, TV⟩ := twoC_new w1 (.int .u8 (M0 : Nat)) (.slice none 0 0) 68
        try rw [hV]
        clear hV
        have FV := Far.of_grew (F := fun x => w1.heap.size ≤ x) gV
        have hw1 : w.heap.size < w1.heap.size := Nat.lt_of_lt_of_le T0'.out.lt g1.size
        have T1 := Lib.hid (T0'.out.grew g1)
        have GW := Lib.hid (g0.trans g1)
        have HLV := Lib.hid hlv
        have HFI := Lib.hid HF
        have HBy := Lib.hid hB
        clear T0' g0 g1 hlv HF hB r0 r1 q0 q1 HL gV hx0 hx1 hpc
        go_wp2_with fail
        go_loopg [7] (l.length) (fun kx s wr => ∃ (k : Nat) (v' : Value), 2 * k + kx = l.length ∧ s = .int .i64 ((2 * k : Nat) : Int) ∧ Hid (TwoC wr w1.heap.size (.int .u8 (M0 : Nat)) v') ∧ Hid (OwnZ (w1.heap.size + 1) 2 .i64 wr v' (bvalsTo S l k)) ∧ Hid (Far (fun x => w1.heap.size ≤ x) w1 wr))
        case atStart => exact ⟨0, _, by omega, rfl, Lib.hid TV, Lib.hid (OwnZ.nil _ _ _ _), Lib.hid FV⟩
        case round =>
          obtain ⟨k, v', hk, rfl, hT, hO, hFa⟩ := hrel
          by_cases hlt : 2 * k < l.length
          · obtain ⟨p, m, neg, e1, e2, hm, hp1, hpm⟩ := HFI.out k (by omega)
            obtain ⟨lb, lo, rfl, hlb, hy1⟩ := HLV.out.at_ (i := 2 * k) hlt
            obtain ⟨lb', lo', e3, _, hy2⟩ := HLV.out.at_ (i := 2 * k + 1) (by omega)
            cases e3
            have hs := Lib.hid (show bvalsTo S l (k + 1) = bvalsTo S l k ++ [getB S (zi l (2 * k)).toNat (zi l (2 * k + 1))] from rfl)
            have hvl := bvalsTo_length S l k
            rw [e1, e2, Int.toNat_natCast] at hs
            rw [e1] at hy1
            rw [e2] at hy2
            have hgb : getZ (turnTo S p m m) 0 (if neg then -(m : Int) else (m : Int)) = getB S p (if neg then -(m : Int) else (m : Int)) := by unfold getB; cases neg <;> simp
            have y1 := Lib.hid ((hFa.out.cell (p := ⟨lb, lo + 2 * k, none⟩) hlb (by show ¬ w1.heap.size ≤ lb; omega)).trans hy1)
            have y2 := Lib.hid ((hFa.out.cell (p := ⟨lb, lo + (2 * k + 1), none⟩) hlb (by show ¬ w1.heap.size ≤ lb; omega)).trans hy2)
            have HRW := Lib.hid ((HR.out.grew GW.out).far hFa.out (fun x hx h => by have := HR.out.lt (by omega) x hx; omega))
            have hlb2 : lb < wr.heap.size := Nat.lt_of_lt_of_le hlb hFa.out.size
            clear hy1 hy2 e1 e2
            generalize bvalsTo S l k = zs at *
            go_upto_region 12 with fail
            refine wp_norm (srf_round (k := k) (p := p) (m := m) (neg := neg) _ HRW HBy hpm hm hl hlb2 y1 y2 (by omega) hev.2.1 hT hO (by omega) (Lib.hid hgb) rfl rfl rfl rfl rfl _ (fun a w' hdef hsz hfree hres => ?_))
            obtain ⟨v2, k1, k2, k3⟩ := hres
            rw [← hs.out] at k1
            obtain ⟨tm, df⟩ := a
            simp only at hdef hsz hfree
            subst hdef
            have e : tm = #[tm[0]?.getD undef, tm[1]?.getD undef, tm[2]?.getD undef, tm[3]?.getD undef, tm[4]?.getD undef, tm[5]?.getD undef, tm[6]?.getD undef, tm[7]?.getD undef, tm[8]?.getD undef, tm[9]?.getD undef, tm[10]?.getD undef, tm[11]?.getD undef, tm[12]?.getD undef, tm[13]?.getD undef, tm[14]?.getD undef, tm[15]?.getD undef, tm[16]?.getD undef, tm[17]?.getD undef, tm[18]?.getD undef, tm[19]?.getD undef, tm[20]?.getD undef, tm[21]?.getD undef, tm[22]?.getD undef, tm[23]?.getD undef, tm[24]?.getD undef, tm[25]?.getD undef, tm[26]?.getD undef, tm[27]?.getD undef, tm[28]?.getD undef, tm[29]?.getD undef, tm[30]?.getD undef, tm[31]?.getD undef, tm[32]?.getD undef, tm[33]?.getD undef, tm[34]?.getD undef, tm[35]?.getD undef, tm[36]?.getD undef, tm[37]?.getD undef, tm[38]?.getD undef, tm[39]?.getD undef, tm[40]?.getD undef, tm[41]?.getD undef, tm[42]?.getD undef, tm[43]?.getD undef, tm[44]?.getD undef, tm[45]?.getD undef, tm[46]?.getD undef, tm[47]?.getD undef, tm[48]?.getD undef, tm[49]?.getD undef, tm[50]?.getD undef, tm[51]?.getD undef, tm[52]?.getD undef, tm[53]?.getD undef, tm[54]?.getD undef, tm[55]?.getD undef, tm[56]?.getD undef, tm[57]?.getD undef, tm[58]?.getD undef, tm[59]?.getD undef] := (arr_getS tm undef hsz).trans (by kernel_rfl)
            rw [hfree 0 (by kernel_rfl), hfree 1 (by kernel_rfl), hfree 2 (by kernel_rfl), hfree 3 (by kernel_rfl), hfree 4 (by kernel_rfl), hfree 5 (by kernel_rfl), hfree 6 (by kernel_rfl), hfree 7 (by kernel_rfl), hfree 8 (by kernel_rfl), hfree 9 (by kernel_rfl), hfree 10 (by kernel_rfl), hfree 11 (by kernel_rfl), hfree 12 (by kernel_rfl), hfree 13 (by kernel_rfl), hfree 14 (by kernel_rfl), hfree 15 (by kernel_rfl), hfree 16 (by kernel_rfl), hfree 17 (by kernel_rfl), hfree 18 (by kernel_rfl), hfree 19 (by kernel_rfl), hfree 20 (by kernel_rfl), hfree 21 (by kernel_rfl), hfree 22 (by kernel_rfl), hfree 23 (by kernel_rfl), hfree 24 (by kernel_rfl), hfree 25 (by kernel_rfl), hfree 26 (by kernel_rfl), hfree 27 (by kernel_rfl), hfree 28 (by kernel_rfl), hfree 29 (by kernel_rfl), hfree 30 (by kernel_rfl), hfree 31 (by kernel_rfl), hfree 32 (by kernel_rfl), hfree 33 (by kernel_rfl), hfree 34 (by kernel_rfl), hfree 35 (by kernel_rfl), hfree 36 (by kernel_rfl), hfree 59 (by kernel_rfl)] at e
            generalize tm[37]?.getD undef = x37 at e
            generalize tm[38]?.getD undef = x38 at e
            generalize tm[39]?.getD undef = x39 at e
            generalize tm[40]?.getD undef = x40 at e
            generalize tm[41]?.getD undef = x41 at e
            generalize tm[42]?.getD undef = x42 at e
            generalize tm[43]?.getD undef = x43 at e
            generalize tm[44]?.getD undef = x44 at e
            generalize tm[45]?.getD undef = x45 at e
            generalize tm[46]?.getD undef = x46 at e
            generalize tm[47]?.getD undef = x47 at e
            generalize tm[48]?.getD undef = x48 at e
            generalize tm[49]?.getD undef = x49 at e
            generalize tm[50]?.getD undef = x50 at e
            generalize tm[51]?.getD undef = x51 at e
            generalize tm[52]?.getD undef = x52 at e
            generalize tm[53]?.getD undef = x53 at e
            generalize tm[54]?.getD undef = x54 at e
            generalize tm[55]?.getD undef = x55 at e
            generalize tm[56]?.getD undef = x56 at e
            generalize tm[57]?.getD undef = x57 at e
            generalize tm[58]?.getD undef = x58 at e
            simp only [List.getElem?_toArray, List.getElem?_cons_zero, List.getElem?_cons_succ, Option.getD_some] at e
            clear hfree hsz
            subst e
            have F6 := Lib.hid (hFa.out.trans k3)
            have K1 := Lib.hid k1
            have K2 := Lib.hid k2
            clear k1 k2 k3
            go_wp2_with fail
            go_roundg (l.length - 2 * (k + 1))
            case measure => omega
            case rel => exact ⟨k + 1, _, by omega, by simp; omega, K2, K1, F6⟩
          · have hkk : Hid (k = l.length / 2) := by show _ = _; omega
            have c1 : ¬ 2 * (k : Int) < l.length := by omega
            obtain ⟨VA, vc, rfl, _⟩ := hO.out.row.form
            obtain ⟨_, r0, r1, q0, q1⟩ := T1.out.far hFa.out (by show ¬ w1.heap.size ≤ w.heap.size; omega)
            obtain ⟨_, t0, t1, f0, f1⟩ := hT.out
            have GR := Lib.hid (hFa.out.grew GW.out (fun x h => by have : w1.heap.size ≤ x := h; omega))
            have O6 := Lib.hid (hO.out.far (((Far.refl (fun x => x = w.heap.size) wr).setCell (p := ⟨w.heap.size, 0, none⟩) rfl (.int .u8 (M0 : Nat))).setCell (p := ⟨w.heap.size, 1, none⟩) rfl (.slice VA (bvalsTo S l k).length vc)) (fun x hx e => by have := hO.out.lt x hx; have : x = w.heap.size := e; omega))
            have OL := Lib.hid hO.out.lt
            generalize (bvalsTo S l k).length = vn at *
            have O7 : Hid (RowZ .i64 _ _ (bvalsTo S l (l.length / 2))) := Lib.hid (hkk.out ▸ O6.out.row)
            clear hT hO hFa hk hlt O6 hkk
            go_wp2_with fail
            refine bodyPost_ret (by simp [results, Tryz.results47, go_sem, r0, r1]; try rfl) rfl ?_
            rw [HPO.out]
            exact ⟨_, rfl, O7.out, fun _ x hx => by have := OL.out x hx; omega, twoC_put GR.out (Nat.le_refl _) _ _⟩
-- DEC]
end Go.Proofs.YtnhigfkhdmkoeaaGreatDoor

namespace Go.Proofs.YtnhigfkhdmkoeaaGreatDoor
open Go.RowKit
set_option linter.unusedVariables false

theorem three_put3 {w : World} {p : Nat} {x y z x' y' z' : Value} (h : ThreeAt w p x y z) : ThreeAt (((w.setCell ⟨p, 0, none⟩ x').setCell ⟨p, 1, none⟩ y').setCell ⟨p, 2, none⟩ z') p x' y' z' := by
  obtain ⟨l, c0, c1, c2, f0, f1, f2⟩ := h
  exact ⟨by simpa using l, by simp [go_sem, c0], by simp [go_sem, c1], by simp [go_sem, c2], by simp [go_sem, f0], by simp [go_sem, f1], by simp [go_sem, f2]⟩
/-- A row of numbers stands where a struct of bytes is written over. -/
theorem rowZ_put {w w' : World} {p : Nat} {v x : Value} {xs : List Value} {zs : List Int} {E : TypeId} (h : RowZ .i64 w v zs) (hb : w.heap[p]? = some (.cells (x :: xs).toArray E)) (hx : ∀ u ∈ (x :: xs), ∀ z : Int, u ≠ .int .i64 z) (F : Far (fun k => k = p) w w') : RowZ .i64 w' v zs := by
  obtain ⟨A, c, rfl, hc, hr⟩ := h
  refine ⟨A, c, rfl, hc, fun hn => ?_⟩
  obtain ⟨b, o, rfl, hlt, hcell⟩ := hr hn
  have hne : ¬ b = p := fun e => by
    subst e
    have h0 := hcell 0 hn
    rw [cell_of_row w b _ _ _ _ hb] at h0
    have hm := List.mem_of_getElem? (by simpa using h0)
    exact hx _ hm _ rfl
  exact ⟨b, o, rfl, Nat.lt_of_lt_of_le hlt F.size, fun i hi => (F.cell (p := ⟨b, o + i, none⟩) hlt hne).trans (hcell i hi)⟩
/- A region that calls Decode of UBX and keeps what it tells in a variable, whatever comes up first. -/
/-- What an operation leaves: a value (inl); what is told (0), the message (1), the variable (2). -/
def UCallS (a1 b1 : Int) (er : Nat) (zs : List Int) (W : World) (st : Nat) (s : Value ⊕ Nat) (L : Nat → Bool) (w : World) (v : Value) : Prop :=
  match s with
  | .inl x => v = x
  | .inr 0 => ∃ zv, v = .tuple #[.agg #[.int .u8 a1, .int .u8 b1, zv], .int .i64 (er : Nat)] ∧ RowZ .i64 w zv zs
  | .inr 1 => ∃ zv, v = .agg #[.int .u8 a1, .int .u8 b1, zv] ∧ RowZ .i64 w zv zs
  | .inr 2 => ∃ p, v = .pointer (some ⟨p, 0, none⟩) ∧ W.heap.size ≤ p ∧ p < w.heap.size ∧ (if L st = true then ∃ zv, ThreeAt w p (.int .u8 a1) (.int .u8 b1) zv ∧ RowZ .i64 w zv zs else w.heap[p]? = some (.cells #[.int .u8 0, .int .u8 0, .slice none 0 0] 36))
  | .inr _ => True
section
variable {a1 b1 : Int} {er : Nat} {zs : List Int}
theorem UCallS.also {W : World} {st : Nat} {s : Value ⊕ Nat} {L : Nat → Bool} {j : Nat} {w w' : World} {v : Value} (h : UCallS a1 b1 er zs W st s L w v) (g : Grew w w') (hj : j ≠ st) : UCallS a1 b1 er zs W st s (also L j) w' v := by
  unfold UCallS at h ⊢
  split at h
  · exact h
  · obtain ⟨zv, e, hl⟩ := h; exact ⟨zv, e, hl.grew g⟩
  · obtain ⟨zv, e, hl⟩ := h; exact ⟨zv, e, hl.grew g⟩
  · obtain ⟨p, e, h1, h2, h3⟩ := h
    refine ⟨p, e, h1, Nat.lt_of_lt_of_le h2 g.size, ?_⟩
    rw [also_ne (by omega)]
    split at h3
    · rename_i q
      rw [if_pos q]
      obtain ⟨zv, k1, k2⟩ := h3
      exact ⟨zv, k1.grew g, k2.grew g⟩
    · rename_i q
      rw [if_neg q]
      exact (Below.block g p h2).trans h3
  · trivial
theorem us_of {P : Program} {Q : Exit → Act → World → Prop} {o : Oper} {a : Act} {w W : World} {L : Nat → Bool} {ops : Array Oper} {i st : Nat} {sh : List (Value ⊕ Nat)}
    (hd : ∀ j d, L j = true → writes ops j d = true → UCallS a1 b1 er zs W st (sh.getD j (.inr 4)) L w (a.tmps[d]?.getD undef)) (g : Grew W w) (hi : i ≠ st)
    (h : o.wp P a w (fun a' w'' => ∃ v, a' = a.put o.dst v ∧ UCallS a1 b1 er zs W st (sh.getD i (.inr 4)) (also L i) w'' v ∧ Grew w w'') Q) :
    o.wp P a w (fun a' w' => ∃ v, a' = a.put o.dst v ∧ (∀ d, o.dst = some d → UCallS a1 b1 er zs W st (sh.getD i (.inr 4)) (also L i) w' v) ∧ (∀ j d, L j = true → writes ops j d = true → UCallS a1 b1 er zs W st (sh.getD j (.inr 4)) (also L i) w' (a.tmps[d]?.getD undef)) ∧ Grew W w') Q :=
  Oper.wp_mono (fun a' w' ⟨v, h1, h2, h3⟩ => ⟨v, h1, fun _ _ => h2, fun j d hl hw => (hd j d hl hw).also h3 hi, g.trans h3⟩) h
theorem us_store {Q : Exit → Act → World → Prop} {o : Oper} {a : Act} {w W : World} {L : Nat → Bool} {ops : Array Oper} {i t u : Nat} {sh : List (Value ⊕ Nat)}
    (hop : o.op = .store 36 (.tmp u) (.tmp t)) (hdst : o.dst = none)
    (hd : ∀ j d, L j = true → writes ops j d = true → UCallS a1 b1 er zs W i (sh.getD j (.inr 4)) L w (a.tmps[d]?.getD undef)) (g : Grew W w)
    (h4 : UCallS a1 b1 er zs W i (.inr 2) L w (a.tmps[u]?.getD undef)) (ht : UCallS a1 b1 er zs W i (.inr 1) L w (a.tmps[t]?.getD undef)) (hL : L i = false)
    (hone : ((List.range ops.size).all fun j => match sh.getD j (.inr 4) with | .inr 2 => writes ops j u | _ => true) = true) :
    o.wp Tryz.prog a w (fun a' w' => ∃ v, a' = a.put o.dst v ∧ (∀ d, o.dst = some d → UCallS a1 b1 er zs W i (sh.getD i (.inr 4)) (also L i) w' v) ∧ (∀ j d, L j = true → writes ops j d = true → UCallS a1 b1 er zs W i (sh.getD j (.inr 4)) (also L i) w' (a.tmps[d]?.getD undef)) ∧ Grew W w') Q := by
  obtain ⟨p, e4, hWp, hpl, h4⟩ := h4
  rw [hL, if_neg (by decide)] at h4
  have hblk := h4
  obtain ⟨zv, e17, hrow⟩ := ht
  have hT : ThreeAt w p (.int .u8 0) (.int .u8 0) (.slice none 0 0) := by
    refine ⟨hpl, ?_, ?_, ?_, ?_, ?_, ?_⟩
    · rw [cell_of_row w p 0 _ _ _ hblk]; rfl
    · rw [cell_of_row w p 1 _ _ _ hblk]; rfl
    · rw [cell_of_row w p 2 _ _ _ hblk]; rfl
    · simp [World.frozen?, hblk]
    · simp [World.frozen?, hblk]
    · simp [World.frozen?, hblk]
  obtain ⟨A, cap, ezv, _⟩ := id hrow
  have hF := (((Far.refl (fun x => x = p) w).setCell (p := ⟨p, 0, none⟩) rfl (.int .u8 a1)).setCell (p := ⟨p, 1, none⟩) rfl (.int .u8 b1)).setCell (p := ⟨p, 2, none⟩) rfl zv
  have hvar := three_put3 (x' := .int .u8 a1) (y' := .int .u8 b1) (z' := zv) hT
  have hg1 : Grew W (((w.setCell ⟨p, 0, none⟩ (.int .u8 a1)).setCell ⟨p, 1, none⟩ (.int .u8 b1)).setCell ⟨p, 2, none⟩ zv) := ((g.setCell hWp _).setCell hWp _).setCell hWp _
  have hex : (execOp a.eval o).run Tryz.prog w = .ok .skip (((w.setCell ⟨p, 0, none⟩ (.int .u8 a1)).setCell ⟨p, 1, none⟩ (.int .u8 b1)).setCell ⟨p, 2, none⟩ zv) := by
    obtain ⟨_, c0, c1, c2, f0, f1, f2⟩ := hT
    subst ezv
    simp [execOp, hop, go_sem, e4, e17, c0, c1, c2, f0, f1, f2]
  generalize ((w.setCell ⟨p, 0, none⟩ (.int .u8 a1)).setCell ⟨p, 1, none⟩ (.int .u8 b1)).setCell ⟨p, 2, none⟩ zv = w1 at *
  have hkept : ∀ zv', RowZ .i64 w zv' zs → RowZ .i64 w1 zv' zs := fun zv' hr => rowZ_put hr hblk (fun u hu z => by simp at hu; rcases hu with rfl | rfl | rfl <;> simp) hF
  unfold Oper.wp
  rw [hex]
  refine ⟨undef, by rw [hdst], fun d hd' => (by rw [hdst] at hd'; cases hd'), fun j d hl hwr => ?_, hg1⟩
  have h := hd j d hl hwr
  have h1 := fun q => List.all_eq_true.1 hone j (List.mem_range.2 q)
  have hjs : j < ops.size := by
    unfold writes at hwr
    split at hwr
    · cases hwr
    · exact (Array.getElem?_eq_some_iff.1 ‹_›).1
  replace h1 := h1 hjs
  cases hs : sh.getD j (.inr 4) with
  | inl x => rw [hs] at h; exact h
  | inr n =>
    rw [hs] at h h1
    unfold UCallS at h ⊢
    match n, h, h1 with
    | 0, h, _ => obtain ⟨zv', e, hl⟩ := h; exact ⟨zv', e, hkept _ hl⟩
    | 1, h, _ => obtain ⟨zv', e, hl⟩ := h; exact ⟨zv', e, hkept _ hl⟩
    | 2, h, h1 =>
      have : d = u := by
        unfold writes at hwr h1
        cases hq : ops[j]? with
        | none => rw [hq] at hwr; cases hwr
        | some o' =>
          rw [hq] at hwr h1
          simp only [beq_iff_eq] at hwr h1
          exact Option.some.inj (hwr.symm.trans h1)
      subst this
      refine ⟨p, e4, hWp, hvar.lt, ?_⟩
      rw [if_pos (by unfold Proofs.YtnhigfkhdmkoeaaGreatDoor.also; simp)]
      exact ⟨_, hvar, hkept _ hrow⟩
    | _ + 3, _, _ => trivial
end
end Go.Proofs.YtnhigfkhdmkoeaaGreatDoor

namespace Go.Proofs.YtnhigfkhdmkoeaaGreatDoor
open Go.RowKit
set_option linter.unusedVariables false

/-- A key. -/
def key3 (a b c : Nat) : Value := .agg #[.int .u8 (a : Nat), .int .u8 (b : Nat), .int .u8 (c : Nat)]
/-- One kind: the place of its insert among the operations, its key, what it tells, its two functions. -/
structure MRow where
  at_ : Nat
  a : Nat
  b : Nat
  c : Nat
  num : Nat
  cyc : Nat
  nx : Bool
  holds : Nat
  second : Nat
def MRow.val (k : MRow) : Value := .agg #[.int .u8 (k.num : Nat), .int .i64 (k.cyc : Nat), .bool k.nx, .func (.func k.holds) #[] #[], .func (.func k.second) #[] #[]]
def mRows : List MRow := [⟨3, 1, 0, 1, 1, 100, false, 21, 22⟩,
  ⟨6, 1, 0, 5, 2, 0, false, 23, 24⟩,
  ⟨9, 2, 1, 7, 3, 0, false, 25, 26⟩,
  ⟨12, 2, 1, 32, 4, 0, false, 27, 28⟩,
  ⟨15, 2, 1, 33, 5, 0, false, 29, 30⟩,
  ⟨18, 2, 13, 1, 6, 0, true, 31, 32⟩,
  ⟨21, 3, 0, 2, 7, 1024, false, 33, 34⟩,
  ⟨24, 3, 0, 4, 8, 1024, false, 35, 36⟩,
  ⟨27, 3, 0, 7, 9, 0, false, 37, 38⟩,
  ⟨30, 3, 0, 41, 10, 0, false, 39, 40⟩,
  ⟨33, 3, 0, 52, 11, 0, false, 41, 42⟩]
def same3 (a b c x y z : Nat) : Bool := a == x && b == y && c == z
theorem key3_equal (w : World) (a b c x y z : Nat) : (Op.equal 38 (key3 a b c) (key3 x y z)).run Tryz.prog w = .ok (same3 a b c x y z) w := by
  unfold Op.equal Op.maxDepth same3 key3
  by_cases h1 : a = x
  · subst h1
    by_cases h2 : b = y
    · subst h2
      by_cases h3 : c = z
      · subst h3
        go_simp
      · have h3' : ¬ (c : Int) = z := by omega
        go_simp
    · have h2' : ¬ (b : Int) = y := by omega
      go_simp
  · have h1' : ¬ (a : Int) = x := by omega
    go_simp
theorem key3_checkB (w : World) (em : Bool) (n : Nat) (x : Int) : (Instr.checkKey em (n + 1) 5 (.int .u8 x)).run Tryz.prog w = .ok () w := by
  unfold Instr.checkKey
  go_simp
theorem key3_check (w : World) (em : Bool) (a b c : Nat) : (Instr.checkKey em 10000 38 (key3 a b c)).run Tryz.prog w = .ok () w := by
  have h := fun w x => key3_checkB w em 9998 x
  unfold Instr.checkKey key3
  go_simp
theorem key3_under : Tryz.prog.underlying 38 = some (.struct (Tryz.prog.fieldsOf 38)) := by kernel_rfl
theorem mmap_under : Tryz.prog.underlying 52 = some (.map 38 50) := by kernel_rfl
theorem key3_inj {a b c x y z : Nat} (h : key3 a b c = key3 x y z) : a = x ∧ b = y ∧ c = z := by
  simp [key3] at h
  omega
theorem same3_iff {a b c x y z : Nat} : same3 a b c x y z = true ↔ a = x ∧ b = y ∧ c = z := by
  unfold same3
  simp [and_assoc]
theorem mask_none (w : World) (a b c : Nat) : ∀ (es : List MapEntry) (i : Nat), (∀ e ∈ es, ∃ x y z : Nat, e.key = key3 x y z ∧ same3 a b c x y z = false) → (Instr.findAsking 38 (key3 a b c) es i).run Tryz.prog w = .ok none w
  | [], _, _ => rfl
  | e :: es, i, h => by
    obtain ⟨x, y, z, h1, h2⟩ := h e (by simp)
    have ih := mask_none w a b c es (i + 1) (fun e he => h e (by simp [he]))
    simp only [Instr.findAsking, h1, Sem.run_bind, key3_equal, h2, Result.andThen_ok, Bool.false_eq_true, if_false]
    exact ih
theorem mask_some (w : World) (a b c : Nat) : ∀ (es : List MapEntry) (i : Nat), (∀ e ∈ es, ∃ x y z : Nat, e.key = key3 x y z) → (∃ e ∈ es, e.key = key3 a b c) → ∃ e ∈ es, e.key = key3 a b c ∧ ∃ j, (Instr.findAsking 38 (key3 a b c) es i).run Tryz.prog w = .ok (some (j, e.val)) w
  | [], _, _, h => by obtain ⟨e, he, _⟩ := h; simp at he
  | e :: es, i, h, hx => by
    obtain ⟨x, y, z, h1⟩ := h e (by simp)
    by_cases q : same3 a b c x y z = true
    · have q2 := q
      obtain ⟨rfl, rfl, rfl⟩ := same3_iff.1 q2
      refine ⟨e, by simp, h1, i, ?_⟩
      simp only [Instr.findAsking, h1, Sem.run_bind, key3_equal, q, Result.andThen_ok, if_true, Sem.run_pure]
    · have q' : same3 a b c x y z = false := by simpa using q
      obtain ⟨e', he', h2, j, hr⟩ := mask_some w a b c es (i + 1) (fun e he => h e (by simp [he])) (by
        obtain ⟨f, hf1, hf2⟩ := hx
        rcases List.mem_cons.1 hf1 with rfl | hf1
        · exfalso
          rw [h1] at hf2
          obtain ⟨rfl, rfl, rfl⟩ := key3_inj hf2
          exact q (same3_iff.2 ⟨rfl, rfl, rfl⟩)
        · exact ⟨f, hf1, hf2⟩)
      refine ⟨e', by simp [he'], h2, j, ?_⟩
      simp only [Instr.findAsking, h1, Sem.run_bind, key3_equal, q', Result.andThen_ok, Bool.false_eq_true, if_false]
      exact hr
theorem mfind_ask (w : World) (a b c : Nat) (es : List MapEntry) (h : ∀ e ∈ es, ∃ x y z : Nat, e.key = key3 x y z) : (Instr.findKey 38 (key3 a b c) es).run Tryz.prog w = (Instr.findAsking 38 (key3 a b c) es).run Tryz.prog w := by
  cases es with
  | nil => simp only [Instr.findKey, Sem.run_bind, run_underlying key3_under, Result.andThen_ok, Instr.findNow, Instr.findAsking]
  | cons e es =>
    obtain ⟨x, y, z, h1⟩ := h e (by simp)
    simp only [Instr.findKey, Sem.run_bind, run_underlying key3_under, Result.andThen_ok, Instr.findNow, h1, key3, Instr.sameNow]
/-- An entry is laid whose key is none of the map's. -/
theorem mrun_insert (w : World) (m a b c : Nat) (es : Array MapEntry) (clk : Nat) (v : Value) (hm : w.heap[m]? = some (.map es clk)) (h : ∀ e ∈ es.toList, ∃ x y z : Nat, e.key = key3 x y z ∧ same3 a b c x y z = false) :
    (Instr.mapUpdate 52 (.map (some m)) (key3 a b c) v).run Tryz.prog w = .ok () (Go.ChangeMaps.setBlock w m (.map (es.push { key := key3 a b c, val := v, born := clk }) (clk + 1))) := by
  have hc := key3_check w false a b c
  have hf : (Instr.findKey 38 (key3 a b c) es.toList).run Tryz.prog w = .ok none w := by
    rw [mfind_ask w a b c _ (fun e he => by obtain ⟨x, y, z, h1, _⟩ := h e he; exact ⟨x, y, z, h1⟩)]
    exact mask_none w a b c _ 0 h
  unfold Instr.mapUpdate
  simp only [Sem.run_bind, run_underlying mmap_under, Result.andThen_ok, MapKept.run_getObj_map hm, show (Instr.checkKey false 10000 38 (key3 a b c)).run Tryz.prog w = .ok () w from hc, hf, MapKept.run_setObj_map _ hm]
  rfl
/-- A key that the map has; one that it has not. -/
theorem mrun_hit (w : World) (m a b c : Nat) (es : Array MapEntry) (clk : Nat) (hm : w.heap[m]? = some (.map es clk)) (h : ∀ e ∈ es.toList, ∃ x y z : Nat, e.key = key3 x y z) (hx : ∃ e ∈ es.toList, e.key = key3 a b c) :
    ∃ e ∈ es.toList, e.key = key3 a b c ∧ (Instr.lookup 52 (.map (some m)) (key3 a b c) true).run Tryz.prog w = .ok (.tuple #[e.val, .bool true]) w := by
  have hc := key3_check w es.isEmpty a b c
  obtain ⟨e, he, hk, j, hr⟩ := mask_some w a b c es.toList 0 h hx
  rw [← mfind_ask w a b c _ h] at hr
  refine ⟨e, he, hk, ?_⟩
  unfold Instr.lookup
  simp only [Sem.run_bind, run_underlying mmap_under, Result.andThen_ok, MapKept.run_getObj_map hm, Sem.run_pure, show (Instr.checkKey es.isEmpty 10000 38 (key3 a b c)).run Tryz.prog w = .ok () w from hc, hr]
  rfl
/-- What is told of a key that is not there. -/
def noKind : Value := .agg #[.int .u8 0, .int .i64 0, .bool false, .nilFunc, .nilFunc]
theorem mzero (w : World) : (zeroValue 50).run Tryz.prog w = .ok noKind w := by unfold noKind; go_simp
theorem mrun_miss (w : World) (m a b c : Nat) (es : Array MapEntry) (clk : Nat) (hm : w.heap[m]? = some (.map es clk)) (h : ∀ e ∈ es.toList, ∃ x y z : Nat, e.key = key3 x y z ∧ same3 a b c x y z = false) :
    (Instr.lookup 52 (.map (some m)) (key3 a b c) true).run Tryz.prog w = .ok (.tuple #[noKind, .bool false]) w := by
  have hc := key3_check w es.isEmpty a b c
  have hf : (Instr.findKey 38 (key3 a b c) es.toList).run Tryz.prog w = .ok none w := by
    rw [mfind_ask w a b c _ (fun e he => by obtain ⟨x, y, z, h1, _⟩ := h e he; exact ⟨x, y, z, h1⟩)]
    exact mask_none w a b c _ 0 h
  have hz := mzero w
  unfold Instr.lookup
  simp only [Sem.run_bind, run_underlying mmap_under, Result.andThen_ok, MapKept.run_getObj_map hm, Sem.run_pure, show (Instr.checkKey es.isEmpty 10000 38 (key3 a b c)).run Tryz.prog w = .ok () w from hc, hf, hz]
  rfl
def MEntry (k : MRow) (e : MapEntry) : Prop := e.key = key3 k.a k.b k.c ∧ e.val = k.val
def MMap (W : World) (L : Nat → Bool) (w : World) (m : Nat) : Prop :=
  W.heap.size ≤ m ∧ ∃ es clk, w.heap[m]? = some (.map es clk) ∧ (∀ e ∈ es.toList, ∃ k ∈ mRows, L k.at_ = true ∧ MEntry k e) ∧ (∀ k ∈ mRows, L k.at_ = true → ∃ e ∈ es.toList, MEntry k e)
/-- What an operation leaves: a value, or the map. -/
def MLeft (W : World) (L : Nat → Bool) (s : Value ⊕ Unit) (w : World) (v : Value) : Prop :=
  match s with
  | .inl x => v = x
  | .inr _ => ∃ m, v = .map (some m) ∧ MMap W L w m
theorem MMap.also {W : World} {L : Nat → Bool} {w w' : World} {m i : Nat} (h : MMap W L w m) (g : Grew w w') (hi : ∀ k ∈ mRows, k.at_ ≠ i) : MMap W (also L i) w' m := by
  obtain ⟨h0, es, clk, h1, h2, h3⟩ := h
  refine ⟨h0, es, clk, (Below.block g m (Array.getElem?_eq_some_iff.1 h1).1).trans h1, fun e he => ?_, fun k hk hl => ?_⟩
  · obtain ⟨k, hk, hl, he⟩ := h2 e he
    exact ⟨k, hk, by rw [also_ne (hi k hk)]; exact hl, he⟩
  · rw [also_ne (hi k hk)] at hl
    exact h3 k hk hl
theorem MLeft.also {W : World} {L : Nat → Bool} {s : Value ⊕ Unit} {w w' : World} {v : Value} {i : Nat} (h : MLeft W L s w v) (g : Grew w w') (hi : ∀ k ∈ mRows, k.at_ ≠ i) : MLeft W (also L i) s w' v := by
  rcases s with x | u
  · exact h
  · obtain ⟨m, h1, h2⟩ := h
    exact ⟨m, h1, h2.also g hi⟩
section
variable {P : Program} {Q : Exit → Act → World → Prop} {o : Oper} {a : Act} {w w1 W : World} {L : Nat → Bool} {ops : Array Oper} {sh : Nat → Value ⊕ Unit} {i : Nat}
theorem mm_of (hd : ∀ j d, L j = true → writes ops j d = true → MLeft W L (sh j) w (a.tmps[d]?.getD undef)) (g : Grew W w) (hi : mRows.all (fun k => k.at_ != i) = true)
    (h : o.wp P a w (fun a' w'' => ∃ v, a' = a.put o.dst v ∧ MLeft W (also L i) (sh i) w'' v ∧ Grew w w'') Q) :
    o.wp P a w (fun a' w' => ∃ v, a' = a.put o.dst v ∧ (∀ d, o.dst = some d → MLeft W (also L i) (sh i) w' v) ∧ (∀ j d, L j = true → writes ops j d = true → MLeft W (also L i) (sh j) w' (a.tmps[d]?.getD undef)) ∧ Grew W w') Q :=
  Oper.wp_mono (fun a' w' ⟨v, h1, h2, h3⟩ => ⟨v, h1, fun _ _ => h2, fun j d hl hw => (hd j d hl hw).also h3 (fun k hk => by have := List.all_eq_true.1 hi k hk; simpa using this), g.trans h3⟩) h
end
theorem mRows_at : mRows.Pairwise fun x y => x.at_ ≠ y.at_ := by unfold mRows; simp
theorem mRows_key : mRows.Pairwise fun x y => same3 x.a x.b x.c y.a y.b y.c = false := by unfold mRows; simp [same3]
theorem mpair_inj {α : Type} {R : α → α → Prop} : ∀ {K : List α}, K.Pairwise R → ∀ {x y : α}, x ∈ K → y ∈ K → x = y ∨ R x y ∨ R y x
  | [], _, _, _, h, _ => by simp at h
  | z :: K, h, x, y, hx, hy => by
    obtain ⟨h1, h2⟩ := List.pairwise_cons.1 h
    rcases List.mem_cons.1 hx with ex | hx'
    · rcases List.mem_cons.1 hy with ey | hy'
      · exact .inl (ex.trans ey.symm)
      · exact .inr (.inl (ex ▸ h1 y hy'))
    · rcases List.mem_cons.1 hy with ey | hy'
      · exact .inr (.inr (ey ▸ h1 x hx'))
      · exact mpair_inj h2 hx' hy'
theorem mone {x y : MRow} (hx : x ∈ mRows) (hy : y ∈ mRows) (e : x.at_ = y.at_) : x = y := by
  rcases mpair_inj mRows_at hx hy with q | q | q
  · exact q
  · exact absurd e q
  · exact absurd e.symm q
theorem munlike {x y : MRow} (hx : x ∈ mRows) (hy : y ∈ mRows) (e : x ≠ y) : same3 x.a x.b x.c y.a y.b y.c = false := by
  rcases mpair_inj mRows_key hx hy with q | q | q
  · exact absurd q e
  · exact q
  · by_cases p : same3 x.a x.b x.c y.a y.b y.c = true
    · obtain ⟨h1, h2, h3⟩ := same3_iff.1 p
      rw [same3_iff.2 ⟨h1.symm, h2.symm, h3.symm⟩] at q
      cases q
    · simpa using p
theorem mm_insert {Q : Exit → Act → World → Prop} {o : Oper} {a : Act} {w W : World} {L : Nat → Bool} {ops : Array Oper} {sh : Nat → Value ⊕ Unit} {i : Nat} {tm tk tv : Tmp} {k : MRow}
    (hk : k ∈ mRows) (hi : k.at_ = i) (hdst : o.dst = none) (hop : o.op = .insert 52 (.tmp tm) (.tmp tk) (.tmp tv)) (hL : L i = false)
    (hd : ∀ j d, L j = true → writes ops j d = true → MLeft W L (sh j) w (a.tmps[d]?.getD undef)) (hc : ∀ j k, L j = true → waitsAt ops j k = true → L k = true) (g : Grew W w)
    (hmaps : ((List.range ops.size).all fun j => (match sh j with | .inr _ => j == 0 || waitsAt ops j i | _ => true)) = true) (h0 : sh 0 = .inr ()) (hw0 : writes ops 0 tm = true)
    (hm : MLeft W L (.inr ()) w (a.tmps[tm]?.getD undef)) (ek : a.tmps[tk]?.getD undef = key3 k.a k.b k.c) (ev : a.tmps[tv]?.getD undef = k.val) :
    o.wp Tryz.prog a w (fun a' w' => ∃ v, a' = a.put o.dst v ∧ (∀ d, o.dst = some d → MLeft W (also L i) (sh i) w' v) ∧ (∀ j d, L j = true → writes ops j d = true → MLeft W (also L i) (sh j) w' (a.tmps[d]?.getD undef)) ∧ Grew W w') Q := by
  obtain ⟨m, em, hWm, es, clk, hb, h1, h2⟩ := hm
  have hkeys : ∀ e ∈ es.toList, ∃ x y z : Nat, e.key = key3 x y z ∧ same3 k.a k.b k.c x y z = false := fun e he => by
    obtain ⟨k', hk', hl, hx, _⟩ := h1 e he
    refine ⟨k'.a, k'.b, k'.c, hx, munlike hk hk' (fun q => ?_)⟩
    subst q
    rw [hi, hL] at hl
    cases hl
  have hrun := mrun_insert w m k.a k.b k.c es clk (a.tmps[tv]?.getD undef) hb hkeys
  obtain ⟨w1, hw1⟩ : ∃ w1, Go.ChangeMaps.setBlock w m (.map (es.push { key := key3 k.a k.b k.c, val := a.tmps[tv]?.getD undef, born := clk }) (clk + 1)) = w1 := ⟨_, rfl⟩
  have hnew : w1.heap[m]? = some (.map (es.push { key := key3 k.a k.b k.c, val := a.tmps[tv]?.getD undef, born := clk }) (clk + 1)) := by rw [← hw1]; exact Go.ChangeMaps.heap_setBlock_same hb _
  have hgb : w.grownBy w1 (some m) := by
    rw [← hw1]
    exact ⟨rfl, rfl, rfl, by simp [Go.ChangeMaps.setBlock], fun i _ hi => Go.ChangeMaps.heap_setBlock_other hb _ (fun e => hi (by rw [e]))⟩
  have hG : Grew W w1 := Below.grown g hgb g.size (fun b' hb' => by simp at hb'; subst hb'; exact hWm)
  rw [hw1] at hrun
  have hmap : MMap W (also L i) w1 m := by
    refine ⟨hWm, _, _, hnew, fun e he => ?_, fun k' hk' hl => ?_⟩
    · simp only [Array.toList_push, List.mem_append, List.mem_singleton] at he
      rcases he with he | rfl
      · obtain ⟨k', hk', hl, hx⟩ := h1 e he
        exact ⟨k', hk', by unfold also; rw [hl, Bool.or_true], hx⟩
      · exact ⟨k, hk, by unfold also; rw [hi]; simp, rfl, ev⟩
    · by_cases e : k'.at_ = i
      · obtain rfl := mone hk' hk (e.trans hi.symm)
        exact ⟨_, by simp only [Array.toList_push, List.mem_append, List.mem_singleton]; exact .inr rfl, rfl, ev⟩
      · rw [also_ne e] at hl
        obtain ⟨e', he', hx⟩ := h2 k' hk' hl
        exact ⟨e', by simp only [Array.toList_push, List.mem_append]; exact .inl he', hx⟩
  have hrest : ∀ j d, L j = true → writes ops j d = true → MLeft W (also L i) (sh j) w1 (a.tmps[d]?.getD undef) := fun j d hl hw => by
    have hx := hd j d hl hw
    have hjs : j < ops.size := by
      unfold writes at hw
      split at hw
      · cases hw
      · exact (Array.getElem?_eq_some_iff.1 ‹_›).1
    have hmj := List.all_eq_true.1 hmaps j (List.mem_range.2 hjs)
    cases hs : sh j with
    | inl x => rw [hs] at hx; exact hx
    | inr u =>
      rw [hs] at hmj
      simp only [Bool.or_eq_true, beq_iff_eq] at hmj
      rcases hmj with rfl | hmj
      · have : d = tm := by
          unfold writes at hw hw0
          cases hq : ops[0]? with
          | none => rw [hq] at hw; cases hw
          | some p =>
            rw [hq] at hw hw0
            simp only [beq_iff_eq] at hw hw0
            exact Option.some.inj (hw.symm.trans hw0)
        subst this
        exact ⟨m, em, hmap⟩
      · have := hc j i hl hmj
        rw [hL] at this
        cases this
  have hex : (execOp a.eval o).run Tryz.prog w = .ok .skip w1 := by
    have e1 : a.eval (.tmp tm) = .map (some m) := by simpa [go_sem] using em
    have e2 : a.eval (.tmp tk) = key3 k.a k.b k.c := by simpa [go_sem] using ek
    have e3 : a.eval (.tmp tv) = a.tmps[tv]?.getD undef := by simp [go_sem]
    simp [execOp, hop, e1, e2, e3, hrun, Result.andThen]
  unfold Oper.wp
  rw [hex]
  refine ⟨undef, ?_, fun d hd' => (by rw [hdst] at hd'; cases hd'), hrest, hG⟩
  rw [hdst]
  try rfl
def mOpsAt (n : Nat) : Code → Array Oper
  | .region k ops _ => if k = n then ops else #[]
  | .seq a b => mOpsAt n a ++ mOpsAt n b
  | _ => #[]
noncomputable def mOps : Array Oper := (Tryz.f10.body.map (mOpsAt 1)).getD #[]
/-- The map as it stands. -/
def MKindsAt (w : World) (v : Value) : Prop :=
  ∃ m es clk, v = .map (some m) ∧ w.heap[m]? = some (.map es clk) ∧ (∀ e ∈ es.toList, ∃ k ∈ mRows, MEntry k e) ∧ (∀ k ∈ mRows, ∃ e ∈ es.toList, MEntry k e)
noncomputable def mShapes : List (Value ⊕ Unit) := [.inr (),
  .inl (key3 1 0 1), .inl (MRow.val ⟨3, 1, 0, 1, 1, 100, false, 21, 22⟩), .inl undef,
  .inl (key3 1 0 5), .inl (MRow.val ⟨6, 1, 0, 5, 2, 0, false, 23, 24⟩), .inl undef,
  .inl (key3 2 1 7), .inl (MRow.val ⟨9, 2, 1, 7, 3, 0, false, 25, 26⟩), .inl undef,
  .inl (key3 2 1 32), .inl (MRow.val ⟨12, 2, 1, 32, 4, 0, false, 27, 28⟩), .inl undef,
  .inl (key3 2 1 33), .inl (MRow.val ⟨15, 2, 1, 33, 5, 0, false, 29, 30⟩), .inl undef,
  .inl (key3 2 13 1), .inl (MRow.val ⟨18, 2, 13, 1, 6, 0, true, 31, 32⟩), .inl undef,
  .inl (key3 3 0 2), .inl (MRow.val ⟨21, 3, 0, 2, 7, 1024, false, 33, 34⟩), .inl undef,
  .inl (key3 3 0 4), .inl (MRow.val ⟨24, 3, 0, 4, 8, 1024, false, 35, 36⟩), .inl undef,
  .inl (key3 3 0 7), .inl (MRow.val ⟨27, 3, 0, 7, 9, 0, false, 37, 38⟩), .inl undef,
  .inl (key3 3 0 41), .inl (MRow.val ⟨30, 3, 0, 41, 10, 0, false, 39, 40⟩), .inl undef,
  .inl (key3 3 0 52), .inl (MRow.val ⟨33, 3, 0, 52, 11, 0, false, 41, 42⟩), .inl undef,
  .inr (), .inr ()]
set_option maxRecDepth 1000000 in
set_option maxHeartbeats 8000000 in
theorem msg_kinds (w : World) : Calls Tryz.prog 10 #[] w fun e w' => ∃ v, e = .returned v ∧ MKindsAt w' v ∧ Grew w w' := by
  go_enter Tryz.func10, Tryz.ntmps10
  go_upto_region 1 with fail
  refine wp_region_fill (n := 25) (ops := mOps) ?_ (fun L i w' v => MLeft w L (mShapes.getD i (.inl undef)) w' v) ?_ ?_ ?_ ?_ ?_
  case refine_1 => kernel_rfl
  case refine_2 => kernel_rfl
  case refine_3 => kernel_rfl
  case refine_4 => rfl
  case refine_6 =>
    intro L a w' hL hdef hsz ho hd g
    obtain ⟨m, e1, hWm, es, clk, hb, h1, h2⟩ : MLeft w L (.inr ()) w' (a.tmps[0]?.getD undef) := hd 35 0 (by kernel_rfl)
    go_wp2_with fail
    refine bodyPost_ret (v := .map (some m)) (by simp [results, Tryz.results10, go_sem, e1]; try rfl) hdef ?_
    exact ⟨_, rfl, ⟨m, es, clk, rfl, hb, fun e he => (by obtain ⟨k, hk, _, hx⟩ := h1 e he; exact ⟨k, hk, hx⟩), fun k hk => h2 k hk (hL _ (by have := List.all_eq_true.1 (show mRows.all (fun k => decide (k.at_ < mOps.size)) = true by kernel_rfl) k hk; simpa using this))⟩, g⟩
  simp only [AllFrom]
  refine ⟨?_, ?_, ?_, ?_, ?_, ?_, ?_, ?_, ?_, ?_, ?_, ?_, ?_, ?_, ?_, ?_, ?_, ?_, ?_, ?_, ?_, ?_, ?_, ?_, ?_, ?_, ?_, ?_, ?_, ?_, ?_, ?_, ?_, ?_, ?_, ?_, ?_⟩
  · intro L a w' hL ho hw hc hd g
    refine mm_of hd g (by kernel_rfl) ?_
    refine each_made (v := .map (some w'.heap.size)) (w1 := w'.alloc (.map #[] 0)) ?_ ((Grew.refl _).alloc _) ⟨_, rfl, g.size, #[], 0, heap_alloc_new _ _, fun e he => (by simp at he), fun k hk hl => ?_⟩
    · simp [execOp, go_sem, run_makeMap]
    · exfalso
      have hl2 : L k.at_ = true := by rw [also_ne (by have := List.all_eq_true.1 (show mRows.all (fun k => k.at_ != 0) = true by kernel_rfl) k hk; simpa using this)] at hl; exact hl
      have := hc k.at_ 0 hl2 (by have := List.all_eq_true.1 (show mRows.all (fun k => waitsAt mOps k.at_ 0) = true by kernel_rfl) k hk; simpa using this)
      rw [hL] at this
      cases this
  · intro L a w' hL ho hw hc hd g
    refine mm_of hd g (by kernel_rfl) (each_value (v := key3 1 0 1) ?_ rfl)
    simp [execOp, go_sem, key3]
  · intro L a w' hL ho hw hc hd g
    refine mm_of hd g (by kernel_rfl) (each_value (v := MRow.val ⟨3, 1, 0, 1, 1, 100, false, 21, 22⟩) ?_ rfl)
    simp [execOp, go_sem, MRow.val]
  · intro L a w' hL ho hw hc hd g
    exact mm_insert (k := ⟨3, 1, 0, 1, 1, 100, false, 21, 22⟩) (by simp [mRows]) rfl rfl rfl hL hd hc g (by kernel_rfl) rfl (by kernel_rfl) (hd 0 1 (hw 0 (by kernel_rfl)) (by kernel_rfl)) (hd 1 2 (hw 1 (by kernel_rfl)) (by kernel_rfl)) (hd 2 3 (hw 2 (by kernel_rfl)) (by kernel_rfl))
  · intro L a w' hL ho hw hc hd g
    refine mm_of hd g (by kernel_rfl) (each_value (v := key3 1 0 5) ?_ rfl)
    simp [execOp, go_sem, key3]
  · intro L a w' hL ho hw hc hd g
    refine mm_of hd g (by kernel_rfl) (each_value (v := MRow.val ⟨6, 1, 0, 5, 2, 0, false, 23, 24⟩) ?_ rfl)
    simp [execOp, go_sem, MRow.val]
  · intro L a w' hL ho hw hc hd g
    exact mm_insert (k := ⟨6, 1, 0, 5, 2, 0, false, 23, 24⟩) (by simp [mRows]) rfl rfl rfl hL hd hc g (by kernel_rfl) rfl (by kernel_rfl) (hd 0 1 (hw 0 (by kernel_rfl)) (by kernel_rfl)) (hd 4 4 (hw 4 (by kernel_rfl)) (by kernel_rfl)) (hd 5 5 (hw 5 (by kernel_rfl)) (by kernel_rfl))
  · intro L a w' hL ho hw hc hd g
    refine mm_of hd g (by kernel_rfl) (each_value (v := key3 2 1 7) ?_ rfl)
    simp [execOp, go_sem, key3]
  · intro L a w' hL ho hw hc hd g
    refine mm_of hd g (by kernel_rfl) (each_value (v := MRow.val ⟨9, 2, 1, 7, 3, 0, false, 25, 26⟩) ?_ rfl)
    simp [execOp, go_sem, MRow.val]
  · intro L a w' hL ho hw hc hd g
    exact mm_insert (k := ⟨9, 2, 1, 7, 3, 0, false, 25, 26⟩) (by simp [mRows]) rfl rfl rfl hL hd hc g (by kernel_rfl) rfl (by kernel_rfl) (hd 0 1 (hw 0 (by kernel_rfl)) (by kernel_rfl)) (hd 7 6 (hw 7 (by kernel_rfl)) (by kernel_rfl)) (hd 8 7 (hw 8 (by kernel_rfl)) (by kernel_rfl))
  · intro L a w' hL ho hw hc hd g
    refine mm_of hd g (by kernel_rfl) (each_value (v := key3 2 1 32) ?_ rfl)
    simp [execOp, go_sem, key3]
  · intro L a w' hL ho hw hc hd g
    refine mm_of hd g (by kernel_rfl) (each_value (v := MRow.val ⟨12, 2, 1, 32, 4, 0, false, 27, 28⟩) ?_ rfl)
    simp [execOp, go_sem, MRow.val]
  · intro L a w' hL ho hw hc hd g
    exact mm_insert (k := ⟨12, 2, 1, 32, 4, 0, false, 27, 28⟩) (by simp [mRows]) rfl rfl rfl hL hd hc g (by kernel_rfl) rfl (by kernel_rfl) (hd 0 1 (hw 0 (by kernel_rfl)) (by kernel_rfl)) (hd 10 8 (hw 10 (by kernel_rfl)) (by kernel_rfl)) (hd 11 9 (hw 11 (by kernel_rfl)) (by kernel_rfl))
  · intro L a w' hL ho hw hc hd g
    refine mm_of hd g (by kernel_rfl) (each_value (v := key3 2 1 33) ?_ rfl)
    simp [execOp, go_sem, key3]
  · intro L a w' hL ho hw hc hd g
    refine mm_of hd g (by kernel_rfl) (each_value (v := MRow.val ⟨15, 2, 1, 33, 5, 0, false, 29, 30⟩) ?_ rfl)
    simp [execOp, go_sem, MRow.val]
  · intro L a w' hL ho hw hc hd g
    exact mm_insert (k := ⟨15, 2, 1, 33, 5, 0, false, 29, 30⟩) (by simp [mRows]) rfl rfl rfl hL hd hc g (by kernel_rfl) rfl (by kernel_rfl) (hd 0 1 (hw 0 (by kernel_rfl)) (by kernel_rfl)) (hd 13 10 (hw 13 (by kernel_rfl)) (by kernel_rfl)) (hd 14 11 (hw 14 (by kernel_rfl)) (by kernel_rfl))
  · intro L a w' hL ho hw hc hd g
    refine mm_of hd g (by kernel_rfl) (each_value (v := key3 2 13 1) ?_ rfl)
    simp [execOp, go_sem, key3]
  · intro L a w' hL ho hw hc hd g
    refine mm_of hd g (by kernel_rfl) (each_value (v := MRow.val ⟨18, 2, 13, 1, 6, 0, true, 31, 32⟩) ?_ rfl)
    simp [execOp, go_sem, MRow.val]
  · intro L a w' hL ho hw hc hd g
    exact mm_insert (k := ⟨18, 2, 13, 1, 6, 0, true, 31, 32⟩) (by simp [mRows]) rfl rfl rfl hL hd hc g (by kernel_rfl) rfl (by kernel_rfl) (hd 0 1 (hw 0 (by kernel_rfl)) (by kernel_rfl)) (hd 16 12 (hw 16 (by kernel_rfl)) (by kernel_rfl)) (hd 17 13 (hw 17 (by kernel_rfl)) (by kernel_rfl))
  · intro L a w' hL ho hw hc hd g
    refine mm_of hd g (by kernel_rfl) (each_value (v := key3 3 0 2) ?_ rfl)
    simp [execOp, go_sem, key3]
  · intro L a w' hL ho hw hc hd g
    refine mm_of hd g (by kernel_rfl) (each_value (v := MRow.val ⟨21, 3, 0, 2, 7, 1024, false, 33, 34⟩) ?_ rfl)
    simp [execOp, go_sem, MRow.val]
  · intro L a w' hL ho hw hc hd g
    exact mm_insert (k := ⟨21, 3, 0, 2, 7, 1024, false, 33, 34⟩) (by simp [mRows]) rfl rfl rfl hL hd hc g (by kernel_rfl) rfl (by kernel_rfl) (hd 0 1 (hw 0 (by kernel_rfl)) (by kernel_rfl)) (hd 19 14 (hw 19 (by kernel_rfl)) (by kernel_rfl)) (hd 20 15 (hw 20 (by kernel_rfl)) (by kernel_rfl))
  · intro L a w' hL ho hw hc hd g
    refine mm_of hd g (by kernel_rfl) (each_value (v := key3 3 0 4) ?_ rfl)
    simp [execOp, go_sem, key3]
  · intro L a w' hL ho hw hc hd g
    refine mm_of hd g (by kernel_rfl) (each_value (v := MRow.val ⟨24, 3, 0, 4, 8, 1024, false, 35, 36⟩) ?_ rfl)
    simp [execOp, go_sem, MRow.val]
  · intro L a w' hL ho hw hc hd g
    exact mm_insert (k := ⟨24, 3, 0, 4, 8, 1024, false, 35, 36⟩) (by simp [mRows]) rfl rfl rfl hL hd hc g (by kernel_rfl) rfl (by kernel_rfl) (hd 0 1 (hw 0 (by kernel_rfl)) (by kernel_rfl)) (hd 22 16 (hw 22 (by kernel_rfl)) (by kernel_rfl)) (hd 23 17 (hw 23 (by kernel_rfl)) (by kernel_rfl))
  · intro L a w' hL ho hw hc hd g
    refine mm_of hd g (by kernel_rfl) (each_value (v := key3 3 0 7) ?_ rfl)
    simp [execOp, go_sem, key3]
  · intro L a w' hL ho hw hc hd g
    refine mm_of hd g (by kernel_rfl) (each_value (v := MRow.val ⟨27, 3, 0, 7, 9, 0, false, 37, 38⟩) ?_ rfl)
    simp [execOp, go_sem, MRow.val]
  · intro L a w' hL ho hw hc hd g
    exact mm_insert (k := ⟨27, 3, 0, 7, 9, 0, false, 37, 38⟩) (by simp [mRows]) rfl rfl rfl hL hd hc g (by kernel_rfl) rfl (by kernel_rfl) (hd 0 1 (hw 0 (by kernel_rfl)) (by kernel_rfl)) (hd 25 18 (hw 25 (by kernel_rfl)) (by kernel_rfl)) (hd 26 19 (hw 26 (by kernel_rfl)) (by kernel_rfl))
  · intro L a w' hL ho hw hc hd g
    refine mm_of hd g (by kernel_rfl) (each_value (v := key3 3 0 41) ?_ rfl)
    simp [execOp, go_sem, key3]
  · intro L a w' hL ho hw hc hd g
    refine mm_of hd g (by kernel_rfl) (each_value (v := MRow.val ⟨30, 3, 0, 41, 10, 0, false, 39, 40⟩) ?_ rfl)
    simp [execOp, go_sem, MRow.val]
  · intro L a w' hL ho hw hc hd g
    exact mm_insert (k := ⟨30, 3, 0, 41, 10, 0, false, 39, 40⟩) (by simp [mRows]) rfl rfl rfl hL hd hc g (by kernel_rfl) rfl (by kernel_rfl) (hd 0 1 (hw 0 (by kernel_rfl)) (by kernel_rfl)) (hd 28 20 (hw 28 (by kernel_rfl)) (by kernel_rfl)) (hd 29 21 (hw 29 (by kernel_rfl)) (by kernel_rfl))
  · intro L a w' hL ho hw hc hd g
    refine mm_of hd g (by kernel_rfl) (each_value (v := key3 3 0 52) ?_ rfl)
    simp [execOp, go_sem, key3]
  · intro L a w' hL ho hw hc hd g
    refine mm_of hd g (by kernel_rfl) (each_value (v := MRow.val ⟨33, 3, 0, 52, 11, 0, false, 41, 42⟩) ?_ rfl)
    simp [execOp, go_sem, MRow.val]
  · intro L a w' hL ho hw hc hd g
    exact mm_insert (k := ⟨33, 3, 0, 52, 11, 0, false, 41, 42⟩) (by simp [mRows]) rfl rfl rfl hL hd hc g (by kernel_rfl) rfl (by kernel_rfl) (hd 0 1 (hw 0 (by kernel_rfl)) (by kernel_rfl)) (hd 31 22 (hw 31 (by kernel_rfl)) (by kernel_rfl)) (hd 32 23 (hw 32 (by kernel_rfl)) (by kernel_rfl))
  · intro L a w' hL ho hw hc hd g
    obtain ⟨m, e1, hm⟩ : MLeft w L (.inr ()) w' (a.tmps[1]?.getD undef) := hd 0 1 (hw 0 (by kernel_rfl)) (by kernel_rfl)
    refine mm_of hd g (by kernel_rfl) (each_value (v := .map (some m)) ?_ ⟨m, rfl, hm.also (Grew.refl _) (fun k hk => by have := List.all_eq_true.1 (show mRows.all (fun k => k.at_ != 34) = true by kernel_rfl) k hk; simpa using this)⟩)
    clear hd hw hc ho
    simp [execOp, go_sem, e1]
  · intro L a w' hL ho hw hc hd g
    obtain ⟨m, e1, hm⟩ : MLeft w L (.inr ()) w' (a.tmps[24]?.getD undef) := hd 34 24 (hw 34 (by kernel_rfl)) (by kernel_rfl)
    refine mm_of hd g (by kernel_rfl) (each_value (v := .map (some m)) ?_ ⟨m, rfl, hm.also (Grew.refl _) (fun k hk => by have := List.all_eq_true.1 (show mRows.all (fun k => k.at_ != 35) = true by kernel_rfl) k hk; simpa using this)⟩)
    clear hd hw hc ho
    simp [execOp, go_sem, e1]
  · trivial
/-- A key looked up that is one's; that is none's. -/
theorem mkinds_hit (w : World) (v : Value) (h : MKindsAt w v) (k : MRow) (hk : k ∈ mRows) :
    (Instr.lookup 52 v (key3 k.a k.b k.c) true).run Tryz.prog w = .ok (.tuple #[k.val, .bool true]) w := by
  obtain ⟨m, es, clk, rfl, hm, h1, h2⟩ := h
  obtain ⟨e0, he0, hk0⟩ := h2 k hk
  obtain ⟨e, he, hkey, hrun⟩ := mrun_hit w m k.a k.b k.c es clk hm (fun e he => by obtain ⟨k', _, hx, _⟩ := h1 e he; exact ⟨k'.a, k'.b, k'.c, hx⟩) ⟨e0, he0, hk0.1⟩
  rw [hrun]
  obtain ⟨k', hk', hx, hval⟩ := h1 e he
  obtain ⟨q1, q2, q3⟩ := key3_inj (hx.symm.trans hkey)
  by_cases q : k' = k
  · rw [hval, q]
  · have := munlike hk' hk q
    rw [same3_iff.2 ⟨q1, q2, q3⟩] at this
    cases this
theorem mkinds_miss (w : World) (v : Value) (h : MKindsAt w v) (a b c : Nat) (hn : ∀ k ∈ mRows, same3 a b c k.a k.b k.c = false) :
    (Instr.lookup 52 v (key3 a b c) true).run Tryz.prog w = .ok (.tuple #[noKind, .bool false]) w := by
  obtain ⟨m, es, clk, rfl, hm, h1, h2⟩ := h
  refine mrun_miss w m a b c es clk hm fun e he => ?_
  obtain ⟨k', hk', hx, _⟩ := h1 e he
  exact ⟨k'.a, k'.b, k'.c, hx, hn k' hk'⟩
theorem MKindsAt.grew {w w' : World} {v : Value} (h : MKindsAt w v) (g : Grew w w') : MKindsAt w' v := by
  obtain ⟨m, es, clk, rfl, hm, h1, h2⟩ := h
  exact ⟨m, es, clk, rfl, (Below.block g m (Array.getElem?_eq_some_iff.1 hm).1).trans hm, h1, h2⟩
end Go.Proofs.YtnhigfkhdmkoeaaGreatDoor

namespace Go.Proofs.YtnhigfkhdmkoeaaGreatDoor
open Go.RowKit
set_option linter.unusedVariables false

def key0 : Array Value := #[.int .u8 0, .int .u8 0, .int .u8 0]
def keyC (a b c : Nat) : Array Value := #[.int .u8 (a : Nat), .int .u8 (b : Nat), .int .u8 (c : Nat)]
noncomputable def mr4Ops : Array Oper := (Tryz.f9.body.map (regOps 4)).getD #[]
noncomputable def mr4Code : Code := (Tryz.f9.body.bind (regCode 4)).getD .skip
def mr4Sh (ab p1 p2 fb kk er : Nat) (C C2 Z : Array Value) : List Value := [.pointer (some ⟨ab, 0, none⟩), .int .u8 1, .pointer (some ⟨fb, 0, none⟩), .int .u8 (kk : Nat), .agg (keyC 1 0 kk), .agg C, .agg C2, .int .i64 (er : Nat), .bool ((er : Int) == 0), undef, undef, .bool ((er : Int) == 0)]
def mr4B (ab p1 p2 fb kk er : Nat) (C C2 Z : Array Value) : List Put := [⟨9, p1, 38, key0, (keyC 1 0 kk)⟩, ⟨10, p2, 44, Z, C2⟩]
set_option maxRecDepth 1000000 in
set_option maxHeartbeats 8000000 in
theorem mr4_lay (ab p1 p2 fb kk er : Nat) (C C2 Z : Array Value) (W : World) (hne : p1 ≠ p2) (hz1 : W.heap[p1]? = some (.cells key0 38)) (hz2 : W.heap[p2]? = some (.cells Z 44)) (hI : Hid ((Tryz.prog.info? 44).map (·.size) = some 26)) (hZ : Hid (Z.size = 26)) (hC2 : Hid (C2.size = 26)) (hO : Hid (C2.all (·.oneCell') = true)) (hIf : Hid ((Tryz.prog.info? 42).map (·.size) = some 25)) (hCs : Hid (C.size = 25)) (hBt : Hid (Tryz.prog.built 44 [(0, .agg C)] = some C2))
    (hM : Hid (∀ w', Far (PutF (mr4B ab p1 p2 fb kk er C C2 Z)) W w' → w'.cell? ⟨ab, 0, none⟩ = some (.int .u8 1) ∧ w'.cell? ⟨fb, 0, none⟩ = some (.int .u8 (kk : Nat)) ∧ w'.heap[fb]? = some (.cells C 42))) (K0 : Act → World → Prop) (t0 t4 t7 t8 t9 t10 t11 t12 t13 t14 t15 t16 t17 t18 t19 t20 t21 t22 t23 t24 t25 t26 t27 t28 t29 t30 t31 t32 t33 t34 t35 t36 t37 t38 t39 t40 t41 t42 t43 t44 t45 t46 t47 t48 t49 t50 t51 t52 t53 t54 t55 t56 t57 t58 t59 t60 t61 t62 t63 t64 t65 t66 t67 t68 t69 t70 t71 t72 t73 t74 t75 t76 t77 t78 t79 t80 t81 t82 t83 t84 t85 : Value)
    (post : ∀ (w' : World) (s22 s23 s24 s25 s26 s27 s28 s29 s30 : Value), Far (PutF (mr4B ab p1 p2 fb kk er C C2 Z)) W w' → w'.heap[p1]? = some (.cells (keyC 1 0 kk) 38) ∧ w'.heap[p2]? = some (.cells C2 44) → K0 ⟨#[t0, .pointer (some ⟨ab, 0, none⟩), .pointer (some ⟨p1, 0, none⟩), .pointer (some ⟨p2, 0, none⟩), .bool ((er : Int) == 0), .pointer (some ⟨fb, 0, none⟩), .int .i64 (er : Nat), t7, t8, t9, t10, t11, t12, t13, t14, t15, t16, t17, t18, t19, t20, t21, s22, s23, s24, s25, s26, s27, s28, s29, s30, t31, t32, t33, t34, t35, t36, t37, t38, t39, t40, t41, t42, t43, t44, t45, t46, t47, t48, t49, t50, t51, t52, t53, t54, t55, t56, t57, t58, t59, t60, t61, t62, t63, t64, t65, t66, t67, t68, t69, t70, t71, t72, t73, t74, t75, t76, t77, t78, t79, t80, t81, t82, t83, t84, t85], []⟩ w') :
    Code.wp Tryz.prog mr4Code (Exit.then K0 fun _ _ _ => False) ⟨#[t0, .pointer (some ⟨ab, 0, none⟩), .pointer (some ⟨p1, 0, none⟩), .pointer (some ⟨p2, 0, none⟩), t4, .pointer (some ⟨fb, 0, none⟩), .int .i64 (er : Nat), t7, t8, t9, t10, t11, t12, t13, t14, t15, t16, t17, t18, t19, t20, t21, t22, t23, t24, t25, t26, t27, t28, t29, t30, t31, t32, t33, t34, t35, t36, t37, t38, t39, t40, t41, t42, t43, t44, t45, t46, t47, t48, t49, t50, t51, t52, t53, t54, t55, t56, t57, t58, t59, t60, t61, t62, t63, t64, t65, t66, t67, t68, t69, t70, t71, t72, t73, t74, t75, t76, t77, t78, t79, t80, t81, t82, t83, t84, t85], []⟩ W := by
  conv => arg 2; whnf
  refine wp_region_put (n := 86) (ops := mr4Ops) (by kernel_rfl) (mr4B ab p1 p2 fb kk er C C2 Z) (fun i w' v => v = (mr4Sh ab p1 p2 fb kk er C C2 Z).getD i undef) ?_ ?_ ?_ ?_ ?_ ?_ ?_ ?_
  case refine_1 => kernel_rfl
  case refine_2 => kernel_rfl
  case refine_3 => rfl
  case refine_4 => intro i w1 w2 v _ h; exact h
  case refine_5 => unfold mr4B; simp [hne]
  case refine_6 => intro x hx; unfold mr4B at hx; simp only [List.mem_cons, List.not_mem_nil, or_false] at hx; rcases hx with rfl | rfl; exact hz1; exact hz2
  case refine_8 =>
    intro c w' hdef hsz ho hd hF hC
    obtain ⟨tm, df⟩ := c
    simp only at hdef hsz ho hd
    subst hdef
    have f0 : tm[0]?.getD undef = t0 := ho 0 (by kernel_rfl)
    have f1 : tm[1]?.getD undef = .pointer (some ⟨ab, 0, none⟩) := ho 1 (by kernel_rfl)
    have f2 : tm[2]?.getD undef = .pointer (some ⟨p1, 0, none⟩) := ho 2 (by kernel_rfl)
    have f3 : tm[3]?.getD undef = .pointer (some ⟨p2, 0, none⟩) := ho 3 (by kernel_rfl)
    have g4 : tm[4]?.getD undef = .bool ((er : Int) == 0) := hd 11 4 (by kernel_rfl)
    have f5 : tm[5]?.getD undef = .pointer (some ⟨fb, 0, none⟩) := ho 5 (by kernel_rfl)
    have f6 : tm[6]?.getD undef = .int .i64 (er : Nat) := ho 6 (by kernel_rfl)
    have f7 : tm[7]?.getD undef = t7 := ho 7 (by kernel_rfl)
    have f8 : tm[8]?.getD undef = t8 := ho 8 (by kernel_rfl)
    have f9 : tm[9]?.getD undef = t9 := ho 9 (by kernel_rfl)
    have f10 : tm[10]?.getD undef = t10 := ho 10 (by kernel_rfl)
    have f11 : tm[11]?.getD undef = t11 := ho 11 (by kernel_rfl)
    have f12 : tm[12]?.getD undef = t12 := ho 12 (by kernel_rfl)
    have f13 : tm[13]?.getD undef = t13 := ho 13 (by kernel_rfl)
    have f14 : tm[14]?.getD undef = t14 := ho 14 (by kernel_rfl)
    have f15 : tm[15]?.getD undef = t15 := ho 15 (by kernel_rfl)
    have f16 : tm[16]?.getD undef = t16 := ho 16 (by kernel_rfl)
    have f17 : tm[17]?.getD undef = t17 := ho 17 (by kernel_rfl)
    have f18 : tm[18]?.getD undef = t18 := ho 18 (by kernel_rfl)
    have f19 : tm[19]?.getD undef = t19 := ho 19 (by kernel_rfl)
    have f20 : tm[20]?.getD undef = t20 := ho 20 (by kernel_rfl)
    have f21 : tm[21]?.getD undef = t21 := ho 21 (by kernel_rfl)
    have f31 : tm[31]?.getD undef = t31 := ho 31 (by kernel_rfl)
    have f32 : tm[32]?.getD undef = t32 := ho 32 (by kernel_rfl)
    have f33 : tm[33]?.getD undef = t33 := ho 33 (by kernel_rfl)
    have f34 : tm[34]?.getD undef = t34 := ho 34 (by kernel_rfl)
    have f35 : tm[35]?.getD undef = t35 := ho 35 (by kernel_rfl)
    have f36 : tm[36]?.getD undef = t36 := ho 36 (by kernel_rfl)
    have f37 : tm[37]?.getD undef = t37 := ho 37 (by kernel_rfl)
    have f38 : tm[38]?.getD undef = t38 := ho 38 (by kernel_rfl)
    have f39 : tm[39]?.getD undef = t39 := ho 39 (by kernel_rfl)
    have f40 : tm[40]?.getD undef = t40 := ho 40 (by kernel_rfl)
    have f41 : tm[41]?.getD undef = t41 := ho 41 (by kernel_rfl)
    have f42 : tm[42]?.getD undef = t42 := ho 42 (by kernel_rfl)
    have f43 : tm[43]?.getD undef = t43 := ho 43 (by kernel_rfl)
    have f44 : tm[44]?.getD undef = t44 := ho 44 (by kernel_rfl)
    have f45 : tm[45]?.getD undef = t45 := ho 45 (by kernel_rfl)
    have f46 : tm[46]?.getD undef = t46 := ho 46 (by kernel_rfl)
    have f47 : tm[47]?.getD undef = t47 := ho 47 (by kernel_rfl)
    have f48 : tm[48]?.getD undef = t48 := ho 48 (by kernel_rfl)
    have f49 : tm[49]?.getD undef = t49 := ho 49 (by kernel_rfl)
    have f50 : tm[50]?.getD undef = t50 := ho 50 (by kernel_rfl)
    have f51 : tm[51]?.getD undef = t51 := ho 51 (by kernel_rfl)
    have f52 : tm[52]?.getD undef = t52 := ho 52 (by kernel_rfl)
    have f53 : tm[53]?.getD undef = t53 := ho 53 (by kernel_rfl)
    have f54 : tm[54]?.getD undef = t54 := ho 54 (by kernel_rfl)
    have f55 : tm[55]?.getD undef = t55 := ho 55 (by kernel_rfl)
    have f56 : tm[56]?.getD undef = t56 := ho 56 (by kernel_rfl)
    have f57 : tm[57]?.getD undef = t57 := ho 57 (by kernel_rfl)
    have f58 : tm[58]?.getD undef = t58 := ho 58 (by kernel_rfl)
    have f59 : tm[59]?.getD undef = t59 := ho 59 (by kernel_rfl)
    have f60 : tm[60]?.getD undef = t60 := ho 60 (by kernel_rfl)
    have f61 : tm[61]?.getD undef = t61 := ho 61 (by kernel_rfl)
    have f62 : tm[62]?.getD undef = t62 := ho 62 (by kernel_rfl)
    have f63 : tm[63]?.getD undef = t63 := ho 63 (by kernel_rfl)
    have f64 : tm[64]?.getD undef = t64 := ho 64 (by kernel_rfl)
    have f65 : tm[65]?.getD undef = t65 := ho 65 (by kernel_rfl)
    have f66 : tm[66]?.getD undef = t66 := ho 66 (by kernel_rfl)
    have f67 : tm[67]?.getD undef = t67 := ho 67 (by kernel_rfl)
    have f68 : tm[68]?.getD undef = t68 := ho 68 (by kernel_rfl)
    have f69 : tm[69]?.getD undef = t69 := ho 69 (by kernel_rfl)
    have f70 : tm[70]?.getD undef = t70 := ho 70 (by kernel_rfl)
    have f71 : tm[71]?.getD undef = t71 := ho 71 (by kernel_rfl)
    have f72 : tm[72]?.getD undef = t72 := ho 72 (by kernel_rfl)
    have f73 : tm[73]?.getD undef = t73 := ho 73 (by kernel_rfl)
    have f74 : tm[74]?.getD undef = t74 := ho 74 (by kernel_rfl)
    have f75 : tm[75]?.getD undef = t75 := ho 75 (by kernel_rfl)
    have f76 : tm[76]?.getD undef = t76 := ho 76 (by kernel_rfl)
    have f77 : tm[77]?.getD undef = t77 := ho 77 (by kernel_rfl)
    have f78 : tm[78]?.getD undef = t78 := ho 78 (by kernel_rfl)
    have f79 : tm[79]?.getD undef = t79 := ho 79 (by kernel_rfl)
    have f80 : tm[80]?.getD undef = t80 := ho 80 (by kernel_rfl)
    have f81 : tm[81]?.getD undef = t81 := ho 81 (by kernel_rfl)
    have f82 : tm[82]?.getD undef = t82 := ho 82 (by kernel_rfl)
    have f83 : tm[83]?.getD undef = t83 := ho 83 (by kernel_rfl)
    have f84 : tm[84]?.getD undef = t84 := ho 84 (by kernel_rfl)
    have f85 : tm[85]?.getD undef = t85 := ho 85 (by kernel_rfl)
    have e : tm = #[tm[0]?.getD undef, tm[1]?.getD undef, tm[2]?.getD undef, tm[3]?.getD undef, tm[4]?.getD undef, tm[5]?.getD undef, tm[6]?.getD undef, tm[7]?.getD undef, tm[8]?.getD undef, tm[9]?.getD undef, tm[10]?.getD undef, tm[11]?.getD undef, tm[12]?.getD undef, tm[13]?.getD undef, tm[14]?.getD undef, tm[15]?.getD undef, tm[16]?.getD undef, tm[17]?.getD undef, tm[18]?.getD undef, tm[19]?.getD undef, tm[20]?.getD undef, tm[21]?.getD undef, tm[22]?.getD undef, tm[23]?.getD undef, tm[24]?.getD undef, tm[25]?.getD undef, tm[26]?.getD undef, tm[27]?.getD undef, tm[28]?.getD undef, tm[29]?.getD undef, tm[30]?.getD undef, tm[31]?.getD undef, tm[32]?.getD undef, tm[33]?.getD undef, tm[34]?.getD undef, tm[35]?.getD undef, tm[36]?.getD undef, tm[37]?.getD undef, tm[38]?.getD undef, tm[39]?.getD undef, tm[40]?.getD undef, tm[41]?.getD undef, tm[42]?.getD undef, tm[43]?.getD undef, tm[44]?.getD undef, tm[45]?.getD undef, tm[46]?.getD undef, tm[47]?.getD undef, tm[48]?.getD undef, tm[49]?.getD undef, tm[50]?.getD undef, tm[51]?.getD undef, tm[52]?.getD undef, tm[53]?.getD undef, tm[54]?.getD undef, tm[55]?.getD undef, tm[56]?.getD undef, tm[57]?.getD undef, tm[58]?.getD undef, tm[59]?.getD undef, tm[60]?.getD undef, tm[61]?.getD undef, tm[62]?.getD undef, tm[63]?.getD undef, tm[64]?.getD undef, tm[65]?.getD undef, tm[66]?.getD undef, tm[67]?.getD undef, tm[68]?.getD undef, tm[69]?.getD undef, tm[70]?.getD undef, tm[71]?.getD undef, tm[72]?.getD undef, tm[73]?.getD undef, tm[74]?.getD undef, tm[75]?.getD undef, tm[76]?.getD undef, tm[77]?.getD undef, tm[78]?.getD undef, tm[79]?.getD undef, tm[80]?.getD undef, tm[81]?.getD undef, tm[82]?.getD undef, tm[83]?.getD undef, tm[84]?.getD undef, tm[85]?.getD undef] := (arr_getS tm undef hsz).trans (by kernel_rfl)
    rw [f0, f1, f2, f3, g4, f5, f6, f7, f8, f9, f10, f11, f12, f13, f14, f15, f16, f17, f18, f19, f20, f21, f31, f32, f33, f34, f35, f36, f37, f38, f39, f40, f41, f42, f43, f44, f45, f46, f47, f48, f49, f50, f51, f52, f53, f54, f55, f56, f57, f58, f59, f60, f61, f62, f63, f64, f65, f66, f67, f68, f69, f70, f71, f72, f73, f74, f75, f76, f77, f78, f79, f80, f81, f82, f83, f84, f85] at e
    rw [e]
    exact post w' (tm[22]?.getD undef) (tm[23]?.getD undef) (tm[24]?.getD undef) (tm[25]?.getD undef) (tm[26]?.getD undef) (tm[27]?.getD undef) (tm[28]?.getD undef) (tm[29]?.getD undef) (tm[30]?.getD undef) hF ⟨hC ⟨9, p1, 38, key0, (keyC 1 0 kk)⟩ (by unfold mr4B; simp) (of_decide_eq_true (by kernel_rfl)), hC ⟨10, p2, 44, Z, C2⟩ (by unfold mr4B; simp) (of_decide_eq_true (by kernel_rfl))⟩
  simp only [AllFrom]
  refine ⟨?_, ?_, ?_, ?_, ?_, ?_, ?_, ?_, ?_, ?_, ?_, ?_, trivial⟩
  · refine put_value (by kernel_rfl) fun c w' ho hd hF => ⟨.pointer (some ⟨ab, 0, none⟩), ?_, rfl⟩
    have e0 : c.tmps[1]?.getD undef = .pointer (some ⟨ab, 0, none⟩) := ho 1 (by kernel_rfl)
    simp [execOp, go_sem, e0]
  · refine put_value (by kernel_rfl) fun c w' ho hd hF => ⟨.int .u8 1, ?_, rfl⟩
    have e0 : c.tmps[22]?.getD undef = .pointer (some ⟨ab, 0, none⟩) := hd 0 22 (by kernel_rfl) (by kernel_rfl)
    have hx := (hM.out _ hF).1
    simp [execOp, go_sem, e0, hx]
  · refine put_value (by kernel_rfl) fun c w' ho hd hF => ⟨.pointer (some ⟨fb, 0, none⟩), ?_, rfl⟩
    have e0 : c.tmps[5]?.getD undef = .pointer (some ⟨fb, 0, none⟩) := ho 5 (by kernel_rfl)
    simp [execOp, go_sem, e0]
  · refine put_value (by kernel_rfl) fun c w' ho hd hF => ⟨.int .u8 (kk : Nat), ?_, rfl⟩
    have e0 : c.tmps[24]?.getD undef = .pointer (some ⟨fb, 0, none⟩) := hd 2 24 (by kernel_rfl) (by kernel_rfl)
    have hx := (hM.out _ hF).2.1
    simp [execOp, go_sem, e0, hx]
  · refine put_value (by kernel_rfl) fun c w' ho hd hF => ⟨.agg (keyC 1 0 kk), ?_, rfl⟩
    have e0 : c.tmps[23]?.getD undef = .int .u8 1 := hd 1 23 (by kernel_rfl) (by kernel_rfl)
    have e1 : c.tmps[25]?.getD undef = .int .u8 (kk : Nat) := hd 3 25 (by kernel_rfl) (by kernel_rfl)
    simp [execOp, go_sem, e0, e1, keyC]
  · refine put_value (by kernel_rfl) fun c w' ho hd hF => ⟨.agg C, ?_, rfl⟩
    have e0 : c.tmps[5]?.getD undef = .pointer (some ⟨fb, 0, none⟩) := ho 5 (by kernel_rfl)
    have hx := (hM.out _ hF).2.2
    exact exec_load_whole 42 _ rfl _ (by simpa [go_sem] using e0) _ _ _ hx Tryz.underlying42 rfl (by rw [hIf.out, hCs.out])
  · refine put_value (by kernel_rfl) fun c w' ho hd hF => ⟨.agg C2, ?_, rfl⟩
    have e0 : c.tmps[27]?.getD undef = .agg C := hd 5 27 (by kernel_rfl) (by kernel_rfl)
    exact exec_build_as 44 _ rfl _ [(0, .agg C)] (by simp [go_sem, e0]) hBt.out
  · refine put_value (by kernel_rfl) fun c w' ho hd hF => ⟨.int .i64 (er : Nat), ?_, rfl⟩
    have e0 : c.tmps[6]?.getD undef = .int .i64 (er : Nat) := ho 6 (by kernel_rfl)
    simp [execOp, go_sem, e0]
  · refine put_value (by kernel_rfl) fun c w' ho hd hF => ⟨.bool ((er : Int) == 0), ?_, rfl⟩
    have e0 : c.tmps[29]?.getD undef = .int .i64 (er : Nat) := hd 7 29 (by kernel_rfl) (by kernel_rfl)
    simp [execOp, go_sem, e0]
  · refine put_store ⟨9, p1, 38, key0, (keyC 1 0 kk)⟩ (by unfold mr4B; simp) rfl rfl 38 (.tmp 2) (.tmp 26) rfl (fun c w' ho hd => ?_) (by kernel_rfl) (by rfl) (by simp [keyC]; exact ⟨rfl, rfl, rfl⟩)
    have e0 : c.tmps[2]?.getD undef = .pointer (some ⟨p1, 0, none⟩) := ho 2 (by kernel_rfl)
    have e1 : c.tmps[26]?.getD undef = .agg (keyC 1 0 kk) := hd 4 26 (by kernel_rfl) (by kernel_rfl)
    exact ⟨by simpa [go_sem] using e0, by rw [show c.eval (.tmp 26) = c.tmps[26]?.getD undef by simp [go_sem], e1]⟩
  · refine put_store ⟨10, p2, 44, Z, C2⟩ (by unfold mr4B; simp) rfl rfl 44 (.tmp 3) (.tmp 28) rfl (fun c w' ho hd => ?_) (by rw [hI.out, hC2.out]) (by rw [hZ.out, hC2.out]) hO.out
    have e0 : c.tmps[3]?.getD undef = .pointer (some ⟨p2, 0, none⟩) := ho 3 (by kernel_rfl)
    have e1 : c.tmps[28]?.getD undef = .agg C2 := hd 6 28 (by kernel_rfl) (by kernel_rfl)
    exact ⟨by simpa [go_sem] using e0, by rw [show c.eval (.tmp 28) = c.tmps[28]?.getD undef by simp [go_sem], e1]⟩
  · refine put_value (by kernel_rfl) fun c w' ho hd hF => ⟨.bool ((er : Int) == 0), ?_, rfl⟩
    have e0 : c.tmps[30]?.getD undef = .bool ((er : Int) == 0) := hd 8 30 (by kernel_rfl) (by kernel_rfl)
    simp [execOp, go_sem, e0]
noncomputable def mr9Ops : Array Oper := (Tryz.f9.body.map (regOps 9)).getD #[]
noncomputable def mr9Code : Code := (Tryz.f9.body.bind (regCode 9)).getD .skip
def mr9Sh (ab p1 p2 fb a1 b1 er : Nat) (A : Option Addr) (sn sc : Nat) (C2 Z : Array Value) : List Value := [.pointer (some ⟨ab, 0, none⟩), .int .u8 2, .pointer (some ⟨fb, 0, none⟩), .int .u8 (a1 : Nat), .pointer (some ⟨fb, 1, none⟩), .int .u8 (b1 : Nat), .agg (keyC 2 a1 b1), .pointer (some ⟨fb, 2, none⟩), (.slice A sn sc), .agg C2, .int .i64 (er : Nat), .bool ((er : Int) == 0), undef, undef, .bool ((er : Int) == 0)]
def mr9B (ab p1 p2 fb a1 b1 er : Nat) (A : Option Addr) (sn sc : Nat) (C2 Z : Array Value) : List Put := [⟨12, p1, 38, key0, (keyC 2 a1 b1)⟩, ⟨13, p2, 44, Z, C2⟩]
set_option maxRecDepth 1000000 in
set_option maxHeartbeats 8000000 in
theorem mr9_lay (ab p1 p2 fb a1 b1 er : Nat) (A : Option Addr) (sn sc : Nat) (C2 Z : Array Value) (W : World) (hne : p1 ≠ p2) (hz1 : W.heap[p1]? = some (.cells key0 38)) (hz2 : W.heap[p2]? = some (.cells Z 44)) (hI : Hid ((Tryz.prog.info? 44).map (·.size) = some 26)) (hZ : Hid (Z.size = 26)) (hC2 : Hid (C2.size = 26)) (hO : Hid (C2.all (·.oneCell') = true)) (hBt : Hid (Tryz.prog.built 44 [(1, (.slice A sn sc))] = some C2))
    (hM : Hid (∀ w', Far (PutF (mr9B ab p1 p2 fb a1 b1 er A sn sc C2 Z)) W w' → w'.cell? ⟨ab, 0, none⟩ = some (.int .u8 2) ∧ w'.cell? ⟨fb, 0, none⟩ = some (.int .u8 (a1 : Nat)) ∧ w'.cell? ⟨fb, 1, none⟩ = some (.int .u8 (b1 : Nat)) ∧ w'.cell? ⟨fb, 2, none⟩ = some (.slice A sn sc))) (K0 : Act → World → Prop) (t0 t4 t5 t6 t9 t10 t11 t12 t13 t14 t15 t16 t17 t18 t19 t20 t21 t22 t23 t24 t25 t26 t27 t28 t29 t30 t31 t32 t33 t34 t35 t36 t37 t38 t39 t40 t41 t42 t43 t44 t45 t46 t47 t48 t49 t50 t51 t52 t53 t54 t55 t56 t57 t58 t59 t60 t61 t62 t63 t64 t65 t66 t67 t68 t69 t70 t71 t72 t73 t74 t75 t76 t77 t78 t79 t80 t81 t82 t83 t84 t85 : Value)
    (post : ∀ (w' : World) (s54 s55 s56 s57 s58 s59 s60 s61 s62 s63 s64 s65 : Value), Far (PutF (mr9B ab p1 p2 fb a1 b1 er A sn sc C2 Z)) W w' → w'.heap[p1]? = some (.cells (keyC 2 a1 b1) 38) ∧ w'.heap[p2]? = some (.cells C2 44) → K0 ⟨#[t0, .pointer (some ⟨ab, 0, none⟩), .pointer (some ⟨p1, 0, none⟩), .pointer (some ⟨p2, 0, none⟩), .bool ((er : Int) == 0), t5, t6, .pointer (some ⟨fb, 0, none⟩), .int .i64 (er : Nat), t9, t10, t11, t12, t13, t14, t15, t16, t17, t18, t19, t20, t21, t22, t23, t24, t25, t26, t27, t28, t29, t30, t31, t32, t33, t34, t35, t36, t37, t38, t39, t40, t41, t42, t43, t44, t45, t46, t47, t48, t49, t50, t51, t52, t53, s54, s55, s56, s57, s58, s59, s60, s61, s62, s63, s64, s65, t66, t67, t68, t69, t70, t71, t72, t73, t74, t75, t76, t77, t78, t79, t80, t81, t82, t83, t84, t85], []⟩ w') :
    Code.wp Tryz.prog mr9Code (Exit.then K0 fun _ _ _ => False) ⟨#[t0, .pointer (some ⟨ab, 0, none⟩), .pointer (some ⟨p1, 0, none⟩), .pointer (some ⟨p2, 0, none⟩), t4, t5, t6, .pointer (some ⟨fb, 0, none⟩), .int .i64 (er : Nat), t9, t10, t11, t12, t13, t14, t15, t16, t17, t18, t19, t20, t21, t22, t23, t24, t25, t26, t27, t28, t29, t30, t31, t32, t33, t34, t35, t36, t37, t38, t39, t40, t41, t42, t43, t44, t45, t46, t47, t48, t49, t50, t51, t52, t53, t54, t55, t56, t57, t58, t59, t60, t61, t62, t63, t64, t65, t66, t67, t68, t69, t70, t71, t72, t73, t74, t75, t76, t77, t78, t79, t80, t81, t82, t83, t84, t85], []⟩ W := by
  conv => arg 2; whnf
  refine wp_region_put (n := 86) (ops := mr9Ops) (by kernel_rfl) (mr9B ab p1 p2 fb a1 b1 er A sn sc C2 Z) (fun i w' v => v = (mr9Sh ab p1 p2 fb a1 b1 er A sn sc C2 Z).getD i undef) ?_ ?_ ?_ ?_ ?_ ?_ ?_ ?_
  case refine_1 => kernel_rfl
  case refine_2 => kernel_rfl
  case refine_3 => rfl
  case refine_4 => intro i w1 w2 v _ h; exact h
  case refine_5 => unfold mr9B; simp [hne]
  case refine_6 => intro x hx; unfold mr9B at hx; simp only [List.mem_cons, List.not_mem_nil, or_false] at hx; rcases hx with rfl | rfl; exact hz1; exact hz2
  case refine_8 =>
    intro c w' hdef hsz ho hd hF hC
    obtain ⟨tm, df⟩ := c
    simp only at hdef hsz ho hd
    subst hdef
    have f0 : tm[0]?.getD undef = t0 := ho 0 (by kernel_rfl)
    have f1 : tm[1]?.getD undef = .pointer (some ⟨ab, 0, none⟩) := ho 1 (by kernel_rfl)
    have f2 : tm[2]?.getD undef = .pointer (some ⟨p1, 0, none⟩) := ho 2 (by kernel_rfl)
    have f3 : tm[3]?.getD undef = .pointer (some ⟨p2, 0, none⟩) := ho 3 (by kernel_rfl)
    have g4 : tm[4]?.getD undef = .bool ((er : Int) == 0) := hd 14 4 (by kernel_rfl)
    have f5 : tm[5]?.getD undef = t5 := ho 5 (by kernel_rfl)
    have f6 : tm[6]?.getD undef = t6 := ho 6 (by kernel_rfl)
    have f7 : tm[7]?.getD undef = .pointer (some ⟨fb, 0, none⟩) := ho 7 (by kernel_rfl)
    have f8 : tm[8]?.getD undef = .int .i64 (er : Nat) := ho 8 (by kernel_rfl)
    have f9 : tm[9]?.getD undef = t9 := ho 9 (by kernel_rfl)
    have f10 : tm[10]?.getD undef = t10 := ho 10 (by kernel_rfl)
    have f11 : tm[11]?.getD undef = t11 := ho 11 (by kernel_rfl)
    have f12 : tm[12]?.getD undef = t12 := ho 12 (by kernel_rfl)
    have f13 : tm[13]?.getD undef = t13 := ho 13 (by kernel_rfl)
    have f14 : tm[14]?.getD undef = t14 := ho 14 (by kernel_rfl)
    have f15 : tm[15]?.getD undef = t15 := ho 15 (by kernel_rfl)
    have f16 : tm[16]?.getD undef = t16 := ho 16 (by kernel_rfl)
    have f17 : tm[17]?.getD undef = t17 := ho 17 (by kernel_rfl)
    have f18 : tm[18]?.getD undef = t18 := ho 18 (by kernel_rfl)
    have f19 : tm[19]?.getD undef = t19 := ho 19 (by kernel_rfl)
    have f20 : tm[20]?.getD undef = t20 := ho 20 (by kernel_rfl)
    have f21 : tm[21]?.getD undef = t21 := ho 21 (by kernel_rfl)
    have f22 : tm[22]?.getD undef = t22 := ho 22 (by kernel_rfl)
    have f23 : tm[23]?.getD undef = t23 := ho 23 (by kernel_rfl)
    have f24 : tm[24]?.getD undef = t24 := ho 24 (by kernel_rfl)
    have f25 : tm[25]?.getD undef = t25 := ho 25 (by kernel_rfl)
    have f26 : tm[26]?.getD undef = t26 := ho 26 (by kernel_rfl)
    have f27 : tm[27]?.getD undef = t27 := ho 27 (by kernel_rfl)
    have f28 : tm[28]?.getD undef = t28 := ho 28 (by kernel_rfl)
    have f29 : tm[29]?.getD undef = t29 := ho 29 (by kernel_rfl)
    have f30 : tm[30]?.getD undef = t30 := ho 30 (by kernel_rfl)
    have f31 : tm[31]?.getD undef = t31 := ho 31 (by kernel_rfl)
    have f32 : tm[32]?.getD undef = t32 := ho 32 (by kernel_rfl)
    have f33 : tm[33]?.getD undef = t33 := ho 33 (by kernel_rfl)
    have f34 : tm[34]?.getD undef = t34 := ho 34 (by kernel_rfl)
    have f35 : tm[35]?.getD undef = t35 := ho 35 (by kernel_rfl)
    have f36 : tm[36]?.getD undef = t36 := ho 36 (by kernel_rfl)
    have f37 : tm[37]?.getD undef = t37 := ho 37 (by kernel_rfl)
    have f38 : tm[38]?.getD undef = t38 := ho 38 (by kernel_rfl)
    have f39 : tm[39]?.getD undef = t39 := ho 39 (by kernel_rfl)
    have f40 : tm[40]?.getD undef = t40 := ho 40 (by kernel_rfl)
    have f41 : tm[41]?.getD undef = t41 := ho 41 (by kernel_rfl)
    have f42 : tm[42]?.getD undef = t42 := ho 42 (by kernel_rfl)
    have f43 : tm[43]?.getD undef = t43 := ho 43 (by kernel_rfl)
    have f44 : tm[44]?.getD undef = t44 := ho 44 (by kernel_rfl)
    have f45 : tm[45]?.getD undef = t45 := ho 45 (by kernel_rfl)
    have f46 : tm[46]?.getD undef = t46 := ho 46 (by kernel_rfl)
    have f47 : tm[47]?.getD undef = t47 := ho 47 (by kernel_rfl)
    have f48 : tm[48]?.getD undef = t48 := ho 48 (by kernel_rfl)
    have f49 : tm[49]?.getD undef = t49 := ho 49 (by kernel_rfl)
    have f50 : tm[50]?.getD undef = t50 := ho 50 (by kernel_rfl)
    have f51 : tm[51]?.getD undef = t51 := ho 51 (by kernel_rfl)
    have f52 : tm[52]?.getD undef = t52 := ho 52 (by kernel_rfl)
    have f53 : tm[53]?.getD undef = t53 := ho 53 (by kernel_rfl)
    have f66 : tm[66]?.getD undef = t66 := ho 66 (by kernel_rfl)
    have f67 : tm[67]?.getD undef = t67 := ho 67 (by kernel_rfl)
    have f68 : tm[68]?.getD undef = t68 := ho 68 (by kernel_rfl)
    have f69 : tm[69]?.getD undef = t69 := ho 69 (by kernel_rfl)
    have f70 : tm[70]?.getD undef = t70 := ho 70 (by kernel_rfl)
    have f71 : tm[71]?.getD undef = t71 := ho 71 (by kernel_rfl)
    have f72 : tm[72]?.getD undef = t72 := ho 72 (by kernel_rfl)
    have f73 : tm[73]?.getD undef = t73 := ho 73 (by kernel_rfl)
    have f74 : tm[74]?.getD undef = t74 := ho 74 (by kernel_rfl)
    have f75 : tm[75]?.getD undef = t75 := ho 75 (by kernel_rfl)
    have f76 : tm[76]?.getD undef = t76 := ho 76 (by kernel_rfl)
    have f77 : tm[77]?.getD undef = t77 := ho 77 (by kernel_rfl)
    have f78 : tm[78]?.getD undef = t78 := ho 78 (by kernel_rfl)
    have f79 : tm[79]?.getD undef = t79 := ho 79 (by kernel_rfl)
    have f80 : tm[80]?.getD undef = t80 := ho 80 (by kernel_rfl)
    have f81 : tm[81]?.getD undef = t81 := ho 81 (by kernel_rfl)
    have f82 : tm[82]?.getD undef = t82 := ho 82 (by kernel_rfl)
    have f83 : tm[83]?.getD undef = t83 := ho 83 (by kernel_rfl)
    have f84 : tm[84]?.getD undef = t84 := ho 84 (by kernel_rfl)
    have f85 : tm[85]?.getD undef = t85 := ho 85 (by kernel_rfl)
    have e : tm = #[tm[0]?.getD undef, tm[1]?.getD undef, tm[2]?.getD undef, tm[3]?.getD undef, tm[4]?.getD undef, tm[5]?.getD undef, tm[6]?.getD undef, tm[7]?.getD undef, tm[8]?.getD undef, tm[9]?.getD undef, tm[10]?.getD undef, tm[11]?.getD undef, tm[12]?.getD undef, tm[13]?.getD undef, tm[14]?.getD undef, tm[15]?.getD undef, tm[16]?.getD undef, tm[17]?.getD undef, tm[18]?.getD undef, tm[19]?.getD undef, tm[20]?.getD undef, tm[21]?.getD undef, tm[22]?.getD undef, tm[23]?.getD undef, tm[24]?.getD undef, tm[25]?.getD undef, tm[26]?.getD undef, tm[27]?.getD undef, tm[28]?.getD undef, tm[29]?.getD undef, tm[30]?.getD undef, tm[31]?.getD undef, tm[32]?.getD undef, tm[33]?.getD undef, tm[34]?.getD undef, tm[35]?.getD undef, tm[36]?.getD undef, tm[37]?.getD undef, tm[38]?.getD undef, tm[39]?.getD undef, tm[40]?.getD undef, tm[41]?.getD undef, tm[42]?.getD undef, tm[43]?.getD undef, tm[44]?.getD undef, tm[45]?.getD undef, tm[46]?.getD undef, tm[47]?.getD undef, tm[48]?.getD undef, tm[49]?.getD undef, tm[50]?.getD undef, tm[51]?.getD undef, tm[52]?.getD undef, tm[53]?.getD undef, tm[54]?.getD undef, tm[55]?.getD undef, tm[56]?.getD undef, tm[57]?.getD undef, tm[58]?.getD undef, tm[59]?.getD undef, tm[60]?.getD undef, tm[61]?.getD undef, tm[62]?.getD undef, tm[63]?.getD undef, tm[64]?.getD undef, tm[65]?.getD undef, tm[66]?.getD undef, tm[67]?.getD undef, tm[68]?.getD undef, tm[69]?.getD undef, tm[70]?.getD undef, tm[71]?.getD undef, tm[72]?.getD undef, tm[73]?.getD undef, tm[74]?.getD undef, tm[75]?.getD undef, tm[76]?.getD undef, tm[77]?.getD undef, tm[78]?.getD undef, tm[79]?.getD undef, tm[80]?.getD undef, tm[81]?.getD undef, tm[82]?.getD undef, tm[83]?.getD undef, tm[84]?.getD undef, tm[85]?.getD undef] := (arr_getS tm undef hsz).trans (by kernel_rfl)
    rw [f0, f1, f2, f3, g4, f5, f6, f7, f8, f9, f10, f11, f12, f13, f14, f15, f16, f17, f18, f19, f20, f21, f22, f23, f24, f25, f26, f27, f28, f29, f30, f31, f32, f33, f34, f35, f36, f37, f38, f39, f40, f41, f42, f43, f44, f45, f46, f47, f48, f49, f50, f51, f52, f53, f66, f67, f68, f69, f70, f71, f72, f73, f74, f75, f76, f77, f78, f79, f80, f81, f82, f83, f84, f85] at e
    rw [e]
    exact post w' (tm[54]?.getD undef) (tm[55]?.getD undef) (tm[56]?.getD undef) (tm[57]?.getD undef) (tm[58]?.getD undef) (tm[59]?.getD undef) (tm[60]?.getD undef) (tm[61]?.getD undef) (tm[62]?.getD undef) (tm[63]?.getD undef) (tm[64]?.getD undef) (tm[65]?.getD undef) hF ⟨hC ⟨12, p1, 38, key0, (keyC 2 a1 b1)⟩ (by unfold mr9B; simp) (of_decide_eq_true (by kernel_rfl)), hC ⟨13, p2, 44, Z, C2⟩ (by unfold mr9B; simp) (of_decide_eq_true (by kernel_rfl))⟩
  simp only [AllFrom]
  refine ⟨?_, ?_, ?_, ?_, ?_, ?_, ?_, ?_, ?_, ?_, ?_, ?_, ?_, ?_, ?_, trivial⟩
  · refine put_value (by kernel_rfl) fun c w' ho hd hF => ⟨.pointer (some ⟨ab, 0, none⟩), ?_, rfl⟩
    have e0 : c.tmps[1]?.getD undef = .pointer (some ⟨ab, 0, none⟩) := ho 1 (by kernel_rfl)
    simp [execOp, go_sem, e0]
  · refine put_value (by kernel_rfl) fun c w' ho hd hF => ⟨.int .u8 2, ?_, rfl⟩
    have e0 : c.tmps[54]?.getD undef = .pointer (some ⟨ab, 0, none⟩) := hd 0 54 (by kernel_rfl) (by kernel_rfl)
    have hx := (hM.out _ hF).1
    simp [execOp, go_sem, e0, hx]
  · refine put_value (by kernel_rfl) fun c w' ho hd hF => ⟨.pointer (some ⟨fb, 0, none⟩), ?_, rfl⟩
    have e0 : c.tmps[7]?.getD undef = .pointer (some ⟨fb, 0, none⟩) := ho 7 (by kernel_rfl)
    simp [execOp, go_sem, e0]
  · refine put_value (by kernel_rfl) fun c w' ho hd hF => ⟨.int .u8 (a1 : Nat), ?_, rfl⟩
    have e0 : c.tmps[56]?.getD undef = .pointer (some ⟨fb, 0, none⟩) := hd 2 56 (by kernel_rfl) (by kernel_rfl)
    have hx := (hM.out _ hF).2.1
    simp [execOp, go_sem, e0, hx]
  · refine put_value (by kernel_rfl) fun c w' ho hd hF => ⟨.pointer (some ⟨fb, 1, none⟩), ?_, rfl⟩
    have e0 : c.tmps[7]?.getD undef = .pointer (some ⟨fb, 0, none⟩) := ho 7 (by kernel_rfl)
    simp [execOp, go_sem, e0]
  · refine put_value (by kernel_rfl) fun c w' ho hd hF => ⟨.int .u8 (b1 : Nat), ?_, rfl⟩
    have e0 : c.tmps[58]?.getD undef = .pointer (some ⟨fb, 1, none⟩) := hd 4 58 (by kernel_rfl) (by kernel_rfl)
    have hx := (hM.out _ hF).2.2.1
    simp [execOp, go_sem, e0, hx]
  · refine put_value (by kernel_rfl) fun c w' ho hd hF => ⟨.agg (keyC 2 a1 b1), ?_, rfl⟩
    have e0 : c.tmps[55]?.getD undef = .int .u8 2 := hd 1 55 (by kernel_rfl) (by kernel_rfl)
    have e1 : c.tmps[57]?.getD undef = .int .u8 (a1 : Nat) := hd 3 57 (by kernel_rfl) (by kernel_rfl)
    have e2 : c.tmps[59]?.getD undef = .int .u8 (b1 : Nat) := hd 5 59 (by kernel_rfl) (by kernel_rfl)
    simp [execOp, go_sem, e0, e1, e2, keyC]
  · refine put_value (by kernel_rfl) fun c w' ho hd hF => ⟨.pointer (some ⟨fb, 2, none⟩), ?_, rfl⟩
    have e0 : c.tmps[7]?.getD undef = .pointer (some ⟨fb, 0, none⟩) := ho 7 (by kernel_rfl)
    simp [execOp, go_sem, e0]
  · refine put_value (by kernel_rfl) fun c w' ho hd hF => ⟨(.slice A sn sc), ?_, rfl⟩
    have e0 : c.tmps[61]?.getD undef = .pointer (some ⟨fb, 2, none⟩) := hd 7 61 (by kernel_rfl) (by kernel_rfl)
    have hx := (hM.out _ hF).2.2.2
    simp [execOp, go_sem, e0, hx]
  · refine put_value (by kernel_rfl) fun c w' ho hd hF => ⟨.agg C2, ?_, rfl⟩
    have e0 : c.tmps[62]?.getD undef = (.slice A sn sc) := hd 8 62 (by kernel_rfl) (by kernel_rfl)
    exact exec_build_as 44 _ rfl _ [(1, (.slice A sn sc))] (by simp [go_sem, e0]) hBt.out
  · refine put_value (by kernel_rfl) fun c w' ho hd hF => ⟨.int .i64 (er : Nat), ?_, rfl⟩
    have e0 : c.tmps[8]?.getD undef = .int .i64 (er : Nat) := ho 8 (by kernel_rfl)
    simp [execOp, go_sem, e0]
  · refine put_value (by kernel_rfl) fun c w' ho hd hF => ⟨.bool ((er : Int) == 0), ?_, rfl⟩
    have e0 : c.tmps[64]?.getD undef = .int .i64 (er : Nat) := hd 10 64 (by kernel_rfl) (by kernel_rfl)
    simp [execOp, go_sem, e0]
  · refine put_store ⟨12, p1, 38, key0, (keyC 2 a1 b1)⟩ (by unfold mr9B; simp) rfl rfl 38 (.tmp 2) (.tmp 60) rfl (fun c w' ho hd => ?_) (by kernel_rfl) (by rfl) (by simp [keyC]; exact ⟨rfl, rfl, rfl⟩)
    have e0 : c.tmps[2]?.getD undef = .pointer (some ⟨p1, 0, none⟩) := ho 2 (by kernel_rfl)
    have e1 : c.tmps[60]?.getD undef = .agg (keyC 2 a1 b1) := hd 6 60 (by kernel_rfl) (by kernel_rfl)
    exact ⟨by simpa [go_sem] using e0, by rw [show c.eval (.tmp 60) = c.tmps[60]?.getD undef by simp [go_sem], e1]⟩
  · refine put_store ⟨13, p2, 44, Z, C2⟩ (by unfold mr9B; simp) rfl rfl 44 (.tmp 3) (.tmp 63) rfl (fun c w' ho hd => ?_) (by rw [hI.out, hC2.out]) (by rw [hZ.out, hC2.out]) hO.out
    have e0 : c.tmps[3]?.getD undef = .pointer (some ⟨p2, 0, none⟩) := ho 3 (by kernel_rfl)
    have e1 : c.tmps[63]?.getD undef = .agg C2 := hd 9 63 (by kernel_rfl) (by kernel_rfl)
    exact ⟨by simpa [go_sem] using e0, by rw [show c.eval (.tmp 63) = c.tmps[63]?.getD undef by simp [go_sem], e1]⟩
  · refine put_value (by kernel_rfl) fun c w' ho hd hF => ⟨.bool ((er : Int) == 0), ?_, rfl⟩
    have e0 : c.tmps[65]?.getD undef = .bool ((er : Int) == 0) := hd 11 65 (by kernel_rfl) (by kernel_rfl)
    simp [execOp, go_sem, e0]
noncomputable def mr12Ops : Array Oper := (Tryz.f9.body.map (regOps 12)).getD #[]
noncomputable def mr12Code : Code := (Tryz.f9.body.bind (regCode 12)).getD .skip
def mr12Sh (ab p1 p2 fb a1 er : Nat) (A : Option Addr) (sn sc : Nat) (C2 Z : Array Value) : List Value := [.pointer (some ⟨ab, 0, none⟩), .int .u8 3, .pointer (some ⟨fb, 0, none⟩), .int .u8 (a1 : Nat), .agg (keyC 3 0 a1), .pointer (some ⟨fb, 1, none⟩), (.slice A sn sc), .agg C2, .int .i64 (er : Nat), .bool ((er : Int) == 0), undef, undef, .bool ((er : Int) == 0)]
def mr12B (ab p1 p2 fb a1 er : Nat) (A : Option Addr) (sn sc : Nat) (C2 Z : Array Value) : List Put := [⟨10, p1, 38, key0, (keyC 3 0 a1)⟩, ⟨11, p2, 44, Z, C2⟩]
set_option maxRecDepth 1000000 in
set_option maxHeartbeats 8000000 in
theorem mr12_lay (ab p1 p2 fb a1 er : Nat) (A : Option Addr) (sn sc : Nat) (C2 Z : Array Value) (W : World) (hne : p1 ≠ p2) (hz1 : W.heap[p1]? = some (.cells key0 38)) (hz2 : W.heap[p2]? = some (.cells Z 44)) (hI : Hid ((Tryz.prog.info? 44).map (·.size) = some 26)) (hZ : Hid (Z.size = 26)) (hC2 : Hid (C2.size = 26)) (hO : Hid (C2.all (·.oneCell') = true)) (hBt : Hid (Tryz.prog.built 44 [(1, (.slice A sn sc))] = some C2))
    (hM : Hid (∀ w', Far (PutF (mr12B ab p1 p2 fb a1 er A sn sc C2 Z)) W w' → w'.cell? ⟨ab, 0, none⟩ = some (.int .u8 3) ∧ w'.cell? ⟨fb, 0, none⟩ = some (.int .u8 (a1 : Nat)) ∧ w'.cell? ⟨fb, 1, none⟩ = some (.slice A sn sc))) (K0 : Act → World → Prop) (t0 t4 t5 t6 t7 t8 t11 t12 t13 t14 t15 t16 t17 t18 t19 t20 t21 t22 t23 t24 t25 t26 t27 t28 t29 t30 t31 t32 t33 t34 t35 t36 t37 t38 t39 t40 t41 t42 t43 t44 t45 t46 t47 t48 t49 t50 t51 t52 t53 t54 t55 t56 t57 t58 t59 t60 t61 t62 t63 t64 t65 t66 t67 t68 t69 t70 t71 t72 t73 t74 t75 t76 t77 t78 t79 t80 t81 t82 t83 t84 t85 : Value)
    (post : ∀ (w' : World) (s74 s75 s76 s77 s78 s79 s80 s81 s82 s83 : Value), Far (PutF (mr12B ab p1 p2 fb a1 er A sn sc C2 Z)) W w' → w'.heap[p1]? = some (.cells (keyC 3 0 a1) 38) ∧ w'.heap[p2]? = some (.cells C2 44) → K0 ⟨#[t0, .pointer (some ⟨ab, 0, none⟩), .pointer (some ⟨p1, 0, none⟩), .pointer (some ⟨p2, 0, none⟩), .bool ((er : Int) == 0), t5, t6, t7, t8, .pointer (some ⟨fb, 0, none⟩), .int .i64 (er : Nat), t11, t12, t13, t14, t15, t16, t17, t18, t19, t20, t21, t22, t23, t24, t25, t26, t27, t28, t29, t30, t31, t32, t33, t34, t35, t36, t37, t38, t39, t40, t41, t42, t43, t44, t45, t46, t47, t48, t49, t50, t51, t52, t53, t54, t55, t56, t57, t58, t59, t60, t61, t62, t63, t64, t65, t66, t67, t68, t69, t70, t71, t72, t73, s74, s75, s76, s77, s78, s79, s80, s81, s82, s83, t84, t85], []⟩ w') :
    Code.wp Tryz.prog mr12Code (Exit.then K0 fun _ _ _ => False) ⟨#[t0, .pointer (some ⟨ab, 0, none⟩), .pointer (some ⟨p1, 0, none⟩), .pointer (some ⟨p2, 0, none⟩), t4, t5, t6, t7, t8, .pointer (some ⟨fb, 0, none⟩), .int .i64 (er : Nat), t11, t12, t13, t14, t15, t16, t17, t18, t19, t20, t21, t22, t23, t24, t25, t26, t27, t28, t29, t30, t31, t32, t33, t34, t35, t36, t37, t38, t39, t40, t41, t42, t43, t44, t45, t46, t47, t48, t49, t50, t51, t52, t53, t54, t55, t56, t57, t58, t59, t60, t61, t62, t63, t64, t65, t66, t67, t68, t69, t70, t71, t72, t73, t74, t75, t76, t77, t78, t79, t80, t81, t82, t83, t84, t85], []⟩ W := by
  conv => arg 2; whnf
  refine wp_region_put (n := 86) (ops := mr12Ops) (by kernel_rfl) (mr12B ab p1 p2 fb a1 er A sn sc C2 Z) (fun i w' v => v = (mr12Sh ab p1 p2 fb a1 er A sn sc C2 Z).getD i undef) ?_ ?_ ?_ ?_ ?_ ?_ ?_ ?_
  case refine_1 => kernel_rfl
  case refine_2 => kernel_rfl
  case refine_3 => rfl
  case refine_4 => intro i w1 w2 v _ h; exact h
  case refine_5 => unfold mr12B; simp [hne]
  case refine_6 => intro x hx; unfold mr12B at hx; simp only [List.mem_cons, List.not_mem_nil, or_false] at hx; rcases hx with rfl | rfl; exact hz1; exact hz2
  case refine_8 =>
    intro c w' hdef hsz ho hd hF hC
    obtain ⟨tm, df⟩ := c
    simp only at hdef hsz ho hd
    subst hdef
    have f0 : tm[0]?.getD undef = t0 := ho 0 (by kernel_rfl)
    have f1 : tm[1]?.getD undef = .pointer (some ⟨ab, 0, none⟩) := ho 1 (by kernel_rfl)
    have f2 : tm[2]?.getD undef = .pointer (some ⟨p1, 0, none⟩) := ho 2 (by kernel_rfl)
    have f3 : tm[3]?.getD undef = .pointer (some ⟨p2, 0, none⟩) := ho 3 (by kernel_rfl)
    have g4 : tm[4]?.getD undef = .bool ((er : Int) == 0) := hd 12 4 (by kernel_rfl)
    have f5 : tm[5]?.getD undef = t5 := ho 5 (by kernel_rfl)
    have f6 : tm[6]?.getD undef = t6 := ho 6 (by kernel_rfl)
    have f7 : tm[7]?.getD undef = t7 := ho 7 (by kernel_rfl)
    have f8 : tm[8]?.getD undef = t8 := ho 8 (by kernel_rfl)
    have f9 : tm[9]?.getD undef = .pointer (some ⟨fb, 0, none⟩) := ho 9 (by kernel_rfl)
    have f10 : tm[10]?.getD undef = .int .i64 (er : Nat) := ho 10 (by kernel_rfl)
    have f11 : tm[11]?.getD undef = t11 := ho 11 (by kernel_rfl)
    have f12 : tm[12]?.getD undef = t12 := ho 12 (by kernel_rfl)
    have f13 : tm[13]?.getD undef = t13 := ho 13 (by kernel_rfl)
    have f14 : tm[14]?.getD undef = t14 := ho 14 (by kernel_rfl)
    have f15 : tm[15]?.getD undef = t15 := ho 15 (by kernel_rfl)
    have f16 : tm[16]?.getD undef = t16 := ho 16 (by kernel_rfl)
    have f17 : tm[17]?.getD undef = t17 := ho 17 (by kernel_rfl)
    have f18 : tm[18]?.getD undef = t18 := ho 18 (by kernel_rfl)
    have f19 : tm[19]?.getD undef = t19 := ho 19 (by kernel_rfl)
    have f20 : tm[20]?.getD undef = t20 := ho 20 (by kernel_rfl)
    have f21 : tm[21]?.getD undef = t21 := ho 21 (by kernel_rfl)
    have f22 : tm[22]?.getD undef = t22 := ho 22 (by kernel_rfl)
    have f23 : tm[23]?.getD undef = t23 := ho 23 (by kernel_rfl)
    have f24 : tm[24]?.getD undef = t24 := ho 24 (by kernel_rfl)
    have f25 : tm[25]?.getD undef = t25 := ho 25 (by kernel_rfl)
    have f26 : tm[26]?.getD undef = t26 := ho 26 (by kernel_rfl)
    have f27 : tm[27]?.getD undef = t27 := ho 27 (by kernel_rfl)
    have f28 : tm[28]?.getD undef = t28 := ho 28 (by kernel_rfl)
    have f29 : tm[29]?.getD undef = t29 := ho 29 (by kernel_rfl)
    have f30 : tm[30]?.getD undef = t30 := ho 30 (by kernel_rfl)
    have f31 : tm[31]?.getD undef = t31 := ho 31 (by kernel_rfl)
    have f32 : tm[32]?.getD undef = t32 := ho 32 (by kernel_rfl)
    have f33 : tm[33]?.getD undef = t33 := ho 33 (by kernel_rfl)
    have f34 : tm[34]?.getD undef = t34 := ho 34 (by kernel_rfl)
    have f35 : tm[35]?.getD undef = t35 := ho 35 (by kernel_rfl)
    have f36 : tm[36]?.getD undef = t36 := ho 36 (by kernel_rfl)
    have f37 : tm[37]?.getD undef = t37 := ho 37 (by kernel_rfl)
    have f38 : tm[38]?.getD undef = t38 := ho 38 (by kernel_rfl)
    have f39 : tm[39]?.getD undef = t39 := ho 39 (by kernel_rfl)
    have f40 : tm[40]?.getD undef = t40 := ho 40 (by kernel_rfl)
    have f41 : tm[41]?.getD undef = t41 := ho 41 (by kernel_rfl)
    have f42 : tm[42]?.getD undef = t42 := ho 42 (by kernel_rfl)
    have f43 : tm[43]?.getD undef = t43 := ho 43 (by kernel_rfl)
    have f44 : tm[44]?.getD undef = t44 := ho 44 (by kernel_rfl)
    have f45 : tm[45]?.getD undef = t45 := ho 45 (by kernel_rfl)
    have f46 : tm[46]?.getD undef = t46 := ho 46 (by kernel_rfl)
    have f47 : tm[47]?.getD undef = t47 := ho 47 (by kernel_rfl)
    have f48 : tm[48]?.getD undef = t48 := ho 48 (by kernel_rfl)
    have f49 : tm[49]?.getD undef = t49 := ho 49 (by kernel_rfl)
    have f50 : tm[50]?.getD undef = t50 := ho 50 (by kernel_rfl)
    have f51 : tm[51]?.getD undef = t51 := ho 51 (by kernel_rfl)
    have f52 : tm[52]?.getD undef = t52 := ho 52 (by kernel_rfl)
    have f53 : tm[53]?.getD undef = t53 := ho 53 (by kernel_rfl)
    have f54 : tm[54]?.getD undef = t54 := ho 54 (by kernel_rfl)
    have f55 : tm[55]?.getD undef = t55 := ho 55 (by kernel_rfl)
    have f56 : tm[56]?.getD undef = t56 := ho 56 (by kernel_rfl)
    have f57 : tm[57]?.getD undef = t57 := ho 57 (by kernel_rfl)
    have f58 : tm[58]?.getD undef = t58 := ho 58 (by kernel_rfl)
    have f59 : tm[59]?.getD undef = t59 := ho 59 (by kernel_rfl)
    have f60 : tm[60]?.getD undef = t60 := ho 60 (by kernel_rfl)
    have f61 : tm[61]?.getD undef = t61 := ho 61 (by kernel_rfl)
    have f62 : tm[62]?.getD undef = t62 := ho 62 (by kernel_rfl)
    have f63 : tm[63]?.getD undef = t63 := ho 63 (by kernel_rfl)
    have f64 : tm[64]?.getD undef = t64 := ho 64 (by kernel_rfl)
    have f65 : tm[65]?.getD undef = t65 := ho 65 (by kernel_rfl)
    have f66 : tm[66]?.getD undef = t66 := ho 66 (by kernel_rfl)
    have f67 : tm[67]?.getD undef = t67 := ho 67 (by kernel_rfl)
    have f68 : tm[68]?.getD undef = t68 := ho 68 (by kernel_rfl)
    have f69 : tm[69]?.getD undef = t69 := ho 69 (by kernel_rfl)
    have f70 : tm[70]?.getD undef = t70 := ho 70 (by kernel_rfl)
    have f71 : tm[71]?.getD undef = t71 := ho 71 (by kernel_rfl)
    have f72 : tm[72]?.getD undef = t72 := ho 72 (by kernel_rfl)
    have f73 : tm[73]?.getD undef = t73 := ho 73 (by kernel_rfl)
    have f84 : tm[84]?.getD undef = t84 := ho 84 (by kernel_rfl)
    have f85 : tm[85]?.getD undef = t85 := ho 85 (by kernel_rfl)
    have e : tm = #[tm[0]?.getD undef, tm[1]?.getD undef, tm[2]?.getD undef, tm[3]?.getD undef, tm[4]?.getD undef, tm[5]?.getD undef, tm[6]?.getD undef, tm[7]?.getD undef, tm[8]?.getD undef, tm[9]?.getD undef, tm[10]?.getD undef, tm[11]?.getD undef, tm[12]?.getD undef, tm[13]?.getD undef, tm[14]?.getD undef, tm[15]?.getD undef, tm[16]?.getD undef, tm[17]?.getD undef, tm[18]?.getD undef, tm[19]?.getD undef, tm[20]?.getD undef, tm[21]?.getD undef, tm[22]?.getD undef, tm[23]?.getD undef, tm[24]?.getD undef, tm[25]?.getD undef, tm[26]?.getD undef, tm[27]?.getD undef, tm[28]?.getD undef, tm[29]?.getD undef, tm[30]?.getD undef, tm[31]?.getD undef, tm[32]?.getD undef, tm[33]?.getD undef, tm[34]?.getD undef, tm[35]?.getD undef, tm[36]?.getD undef, tm[37]?.getD undef, tm[38]?.getD undef, tm[39]?.getD undef, tm[40]?.getD undef, tm[41]?.getD undef, tm[42]?.getD undef, tm[43]?.getD undef, tm[44]?.getD undef, tm[45]?.getD undef, tm[46]?.getD undef, tm[47]?.getD undef, tm[48]?.getD undef, tm[49]?.getD undef, tm[50]?.getD undef, tm[51]?.getD undef, tm[52]?.getD undef, tm[53]?.getD undef, tm[54]?.getD undef, tm[55]?.getD undef, tm[56]?.getD undef, tm[57]?.getD undef, tm[58]?.getD undef, tm[59]?.getD undef, tm[60]?.getD undef, tm[61]?.getD undef, tm[62]?.getD undef, tm[63]?.getD undef, tm[64]?.getD undef, tm[65]?.getD undef, tm[66]?.getD undef, tm[67]?.getD undef, tm[68]?.getD undef, tm[69]?.getD undef, tm[70]?.getD undef, tm[71]?.getD undef, tm[72]?.getD undef, tm[73]?.getD undef, tm[74]?.getD undef, tm[75]?.getD undef, tm[76]?.getD undef, tm[77]?.getD undef, tm[78]?.getD undef, tm[79]?.getD undef, tm[80]?.getD undef, tm[81]?.getD undef, tm[82]?.getD undef, tm[83]?.getD undef, tm[84]?.getD undef, tm[85]?.getD undef] := (arr_getS tm undef hsz).trans (by kernel_rfl)
    rw [f0, f1, f2, f3, g4, f5, f6, f7, f8, f9, f10, f11, f12, f13, f14, f15, f16, f17, f18, f19, f20, f21, f22, f23, f24, f25, f26, f27, f28, f29, f30, f31, f32, f33, f34, f35, f36, f37, f38, f39, f40, f41, f42, f43, f44, f45, f46, f47, f48, f49, f50, f51, f52, f53, f54, f55, f56, f57, f58, f59, f60, f61, f62, f63, f64, f65, f66, f67, f68, f69, f70, f71, f72, f73, f84, f85] at e
    rw [e]
    exact post w' (tm[74]?.getD undef) (tm[75]?.getD undef) (tm[76]?.getD undef) (tm[77]?.getD undef) (tm[78]?.getD undef) (tm[79]?.getD undef) (tm[80]?.getD undef) (tm[81]?.getD undef) (tm[82]?.getD undef) (tm[83]?.getD undef) hF ⟨hC ⟨10, p1, 38, key0, (keyC 3 0 a1)⟩ (by unfold mr12B; simp) (of_decide_eq_true (by kernel_rfl)), hC ⟨11, p2, 44, Z, C2⟩ (by unfold mr12B; simp) (of_decide_eq_true (by kernel_rfl))⟩
  simp only [AllFrom]
  refine ⟨?_, ?_, ?_, ?_, ?_, ?_, ?_, ?_, ?_, ?_, ?_, ?_, ?_, trivial⟩
  · refine put_value (by kernel_rfl) fun c w' ho hd hF => ⟨.pointer (some ⟨ab, 0, none⟩), ?_, rfl⟩
    have e0 : c.tmps[1]?.getD undef = .pointer (some ⟨ab, 0, none⟩) := ho 1 (by kernel_rfl)
    simp [execOp, go_sem, e0]
  · refine put_value (by kernel_rfl) fun c w' ho hd hF => ⟨.int .u8 3, ?_, rfl⟩
    have e0 : c.tmps[74]?.getD undef = .pointer (some ⟨ab, 0, none⟩) := hd 0 74 (by kernel_rfl) (by kernel_rfl)
    have hx := (hM.out _ hF).1
    simp [execOp, go_sem, e0, hx]
  · refine put_value (by kernel_rfl) fun c w' ho hd hF => ⟨.pointer (some ⟨fb, 0, none⟩), ?_, rfl⟩
    have e0 : c.tmps[9]?.getD undef = .pointer (some ⟨fb, 0, none⟩) := ho 9 (by kernel_rfl)
    simp [execOp, go_sem, e0]
  · refine put_value (by kernel_rfl) fun c w' ho hd hF => ⟨.int .u8 (a1 : Nat), ?_, rfl⟩
    have e0 : c.tmps[76]?.getD undef = .pointer (some ⟨fb, 0, none⟩) := hd 2 76 (by kernel_rfl) (by kernel_rfl)
    have hx := (hM.out _ hF).2.1
    simp [execOp, go_sem, e0, hx]
  · refine put_value (by kernel_rfl) fun c w' ho hd hF => ⟨.agg (keyC 3 0 a1), ?_, rfl⟩
    have e0 : c.tmps[75]?.getD undef = .int .u8 3 := hd 1 75 (by kernel_rfl) (by kernel_rfl)
    have e1 : c.tmps[77]?.getD undef = .int .u8 (a1 : Nat) := hd 3 77 (by kernel_rfl) (by kernel_rfl)
    simp [execOp, go_sem, e0, e1, keyC]
  · refine put_value (by kernel_rfl) fun c w' ho hd hF => ⟨.pointer (some ⟨fb, 1, none⟩), ?_, rfl⟩
    have e0 : c.tmps[9]?.getD undef = .pointer (some ⟨fb, 0, none⟩) := ho 9 (by kernel_rfl)
    simp [execOp, go_sem, e0]
  · refine put_value (by kernel_rfl) fun c w' ho hd hF => ⟨(.slice A sn sc), ?_, rfl⟩
    have e0 : c.tmps[79]?.getD undef = .pointer (some ⟨fb, 1, none⟩) := hd 5 79 (by kernel_rfl) (by kernel_rfl)
    have hx := (hM.out _ hF).2.2
    simp [execOp, go_sem, e0, hx]
  · refine put_value (by kernel_rfl) fun c w' ho hd hF => ⟨.agg C2, ?_, rfl⟩
    have e0 : c.tmps[80]?.getD undef = (.slice A sn sc) := hd 6 80 (by kernel_rfl) (by kernel_rfl)
    exact exec_build_as 44 _ rfl _ [(1, (.slice A sn sc))] (by simp [go_sem, e0]) hBt.out
  · refine put_value (by kernel_rfl) fun c w' ho hd hF => ⟨.int .i64 (er : Nat), ?_, rfl⟩
    have e0 : c.tmps[10]?.getD undef = .int .i64 (er : Nat) := ho 10 (by kernel_rfl)
    simp [execOp, go_sem, e0]
  · refine put_value (by kernel_rfl) fun c w' ho hd hF => ⟨.bool ((er : Int) == 0), ?_, rfl⟩
    have e0 : c.tmps[82]?.getD undef = .int .i64 (er : Nat) := hd 8 82 (by kernel_rfl) (by kernel_rfl)
    simp [execOp, go_sem, e0]
  · refine put_store ⟨10, p1, 38, key0, (keyC 3 0 a1)⟩ (by unfold mr12B; simp) rfl rfl 38 (.tmp 2) (.tmp 78) rfl (fun c w' ho hd => ?_) (by kernel_rfl) (by rfl) (by simp [keyC]; exact ⟨rfl, rfl, rfl⟩)
    have e0 : c.tmps[2]?.getD undef = .pointer (some ⟨p1, 0, none⟩) := ho 2 (by kernel_rfl)
    have e1 : c.tmps[78]?.getD undef = .agg (keyC 3 0 a1) := hd 4 78 (by kernel_rfl) (by kernel_rfl)
    exact ⟨by simpa [go_sem] using e0, by rw [show c.eval (.tmp 78) = c.tmps[78]?.getD undef by simp [go_sem], e1]⟩
  · refine put_store ⟨11, p2, 44, Z, C2⟩ (by unfold mr12B; simp) rfl rfl 44 (.tmp 3) (.tmp 81) rfl (fun c w' ho hd => ?_) (by rw [hI.out, hC2.out]) (by rw [hZ.out, hC2.out]) hO.out
    have e0 : c.tmps[3]?.getD undef = .pointer (some ⟨p2, 0, none⟩) := ho 3 (by kernel_rfl)
    have e1 : c.tmps[81]?.getD undef = .agg C2 := hd 7 81 (by kernel_rfl) (by kernel_rfl)
    exact ⟨by simpa [go_sem] using e0, by rw [show c.eval (.tmp 81) = c.tmps[81]?.getD undef by simp [go_sem], e1]⟩
  · refine put_value (by kernel_rfl) fun c w' ho hd hF => ⟨.bool ((er : Int) == 0), ?_, rfl⟩
    have e0 : c.tmps[83]?.getD undef = .bool ((er : Int) == 0) := hd 9 83 (by kernel_rfl) (by kernel_rfl)
    simp [execOp, go_sem, e0]
end Go.Proofs.YtnhigfkhdmkoeaaGreatDoor

