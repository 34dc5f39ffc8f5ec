/-
  What the program's ring tells; the page's example out of it.
-/
import Derived.Test.YtabbfgidgcnddaaRngS
import Derived.Test.YtabbfgidgcnddaaSumM
import Derived.OwnWalk
namespace Go.Proofs.Ytabbfgidgcnddaa
open Go.RowKit
set_option linter.unusedVariables false

/-- How many have no room; what is held behind a put. -/
def ringOver (size : Nat) (ns xs : List Nat) : Nat := ns.length + xs.length - size
def ringPut (size : Nat) (ns xs : List Nat) : List Nat := (ns ++ xs).drop (ringOver size ns xs)
theorem ringPut_length (size : Nat) (ns xs : List Nat) (h : ns.length ≤ size) : (ringPut size ns xs).length = min (ns.length + xs.length) size := by
  unfold ringPut ringOver; rw [List.length_drop, List.length_append]; omega

section
variable (R : World → Value → (Nat → Prop) → Nat → List Nat → Nat → Prop)
def RingNew (size : Nat) (w : World) (e : Ending) (w' : World) : Prop := ∃ g F, e = .returned (.tuple #[.pointer (some ⟨g, 0, none⟩), .int .i64 0]) ∧ R w' (.pointer (some ⟨g, 0, none⟩)) F size [] 0 ∧ (∀ b, F b → w.heap.size ≤ b) ∧ Grew w w'
def RingTurn (r : Int) (v : Value) (F : Nat → Prop) (size : Nat) (ms : List Nat) (lost : Nat) (w : World) (e : Ending) (w' : World) : Prop :=
  ∃ F', e = .returned (.int .i64 r) ∧ R w' v F' size ms lost ∧ (∀ b, F' b → F b ∨ w.heap.size ≤ b) ∧ Far F w w'
def RingCopied (size : Nat) (ns : List Nat) (lost : Nat) (w : World) (e : Ending) (w' : World) : Prop := ∃ g F, e = .returned (.pointer (some ⟨g, 0, none⟩)) ∧ R w' (.pointer (some ⟨g, 0, none⟩)) F size ns lost ∧ (∀ b, F b → w.heap.size ≤ b) ∧ Grew w w'

/-- R: a ring behind a pointer, in the blocks F; T: what the calls lean on in the world. -/
structure RingCalls (T : World → Prop) : Prop where
  keep : ∀ w w', T w → Grew w w' → T w'
  inv : ∀ w v F size ns lost, R w v F size ns lost → (64 ≤ size ∧ size ≤ 4096) ∧ ns.length ≤ size ∧ Bytes ns
  lt : ∀ w v F size ns lost b, R w v F size ns lost → F b → b < w.heap.size
  far : ∀ w w' v F G size ns lost, R w v F size ns lost → Far G w w' → (∀ b, F b → ¬ G b) → R w' v F size ns lost
  new : ∀ (size : Nat) w, 64 ≤ size → size ≤ 4096 → T w → Calls Try.prog 6 #[.int .i64 (size : Nat)] w (RingNew R size w)
  bad : ∀ (size : Int) w, (-9223372036854775808 ≤ size ∧ size ≤ 9223372036854775807) → (size < 64 ∨ 4096 < size) → T w → Calls Try.prog 6 #[.int .i64 size] w fun e w' => e = .returned (.tuple #[.pointer none, .int .i64 2]) ∧ Grew w w'
  put : ∀ w v F size ns lost b xs, R w v F size ns lost → Row .u8 w b xs → Bytes xs → xs.length ≤ 20000 → lost ≤ 1000000000 → (0 < xs.length → ∀ k, b.ownBlock = some k → ¬ F k) → T w →
    Calls Try.prog 7 #[v, b] w (RingTurn R (ringOver size ns xs : Nat) v F size (ringPut size ns xs) (lost + ringOver size ns xs) w)
  drop : ∀ w v F size ns lost n, R w v F size ns lost → (-9223372036854775808 ≤ n ∧ n ≤ 9223372036854775807) → T w →
    Calls Try.prog 9 #[v, .int .i64 n] w (RingTurn R (min n.toNat ns.length : Nat) v F size (ns.drop (min n.toNat ns.length)) lost w)
  len : ∀ w v F size ns lost, R w v F size ns lost → T w → Calls Try.prog 14 #[v] w fun e w' => e = .returned (.int .i64 (ns.length : Nat)) ∧ Grew w w'
  size : ∀ w v F size ns lost, R w v F size ns lost → T w → Calls Try.prog 16 #[v] w fun e w' => e = .returned (.int .i64 (size : Nat)) ∧ Grew w w'
  lost : ∀ w v F size ns lost, R w v F size ns lost → T w → Calls Try.prog 17 #[v] w fun e w' => e = .returned (.int .i64 (lost : Nat)) ∧ Grew w w'
  peek : ∀ w v F size ns lost n, R w v F size ns lost → (-9223372036854775808 ≤ n ∧ n ≤ 9223372036854775807) → T w → Calls Try.prog 13 #[v, .int .i64 n] w (Peeked (ns.take n.toNat) w)
  copy : ∀ w v F size ns lost, R w v F size ns lost → T w → Calls Try.prog 11 #[v] w (RingCopied R size ns lost w)
  nput : ∀ w b xs, Row .u8 w b xs → T w → Calls Try.prog 7 #[.pointer none, b] w fun e w' => e = .returned (.int .i64 0) ∧ Grew w w'
  ndrop : ∀ w n, (-9223372036854775808 ≤ n ∧ n ≤ 9223372036854775807) → T w → Calls Try.prog 9 #[.pointer none, .int .i64 n] w fun e w' => e = .returned (.int .i64 0) ∧ Grew w w'
  nlen : ∀ w, T w → Calls Try.prog 14 #[.pointer none] w fun e w' => e = .returned (.int .i64 0) ∧ Grew w w'
  nsize : ∀ w, T w → Calls Try.prog 16 #[.pointer none] w fun e w' => e = .returned (.int .i64 0) ∧ Grew w w'
  nlost : ∀ w, T w → Calls Try.prog 17 #[.pointer none] w fun e w' => e = .returned (.int .i64 0) ∧ Grew w w'
  npeek : ∀ w n, (-9223372036854775808 ≤ n ∧ n ≤ 9223372036854775807) → T w → Calls Try.prog 13 #[.pointer none, .int .i64 n] w (Peeked [] w)
  ncopy : ∀ w, T w → Calls Try.prog 11 #[.pointer none] w fun e w' => e = .returned (.pointer none) ∧ Grew w w'
  nat : ∀ w i, (-9223372036854775808 ≤ i ∧ i ≤ 9223372036854775807) → T w → Calls Try.prog 18 #[.pointer none, .int .i64 i] w fun e w' => e = .returned (.tuple #[.int .u8 0, .bool false]) ∧ Grew w w'
  at_ : ∀ w v F size ns lost i, R w v F size ns lost → (-9223372036854775808 ≤ i ∧ i ≤ 9223372036854775807) → T w →
    Calls Try.prog 18 #[v, .int .i64 i] w fun e w' => e = .returned (.tuple #[.int .u8 (if 0 ≤ i ∧ i < ns.length then (wd ns i.toNat : Int) else 0), .bool (decide (0 ≤ i ∧ i < ns.length))]) ∧ Grew w w'
end

theorem RingCalls.grew {R : World → Value → (Nat → Prop) → Nat → List Nat → Nat → Prop} {T : World → Prop} (P : RingCalls R T) {w w' : World} {v : Value} {F : Nat → Prop} {size lost : Nat} {ns : List Nat} (h : R w v F size ns lost) (g : Grew w w') : R w' v F size ns lost :=
  P.far w w' v F (fun _ => False) size ns lost h (Far.of_grew g) (fun _ _ h => h)
theorem grew_made {w w' : World} (h : w.grownBy w' none) : Grew w w' := Below.grown (Below.refl _ _) h (Nat.le_refl _) (fun b hb => by cases hb)
theorem known_nums : ringOver 64 [] (List.replicate 60 0) = 0 ∧ ringPut 64 [] (List.replicate 60 0) = List.replicate 60 0 ∧ ringOver 64 (List.replicate 60 0) (List.replicate 10 0) = 6 ∧ ringPut 64 (List.replicate 60 0) (List.replicate 10 0) = List.replicate 64 0 := by decide +kernel
theorem replicate_bytes (n : Nat) : Bytes (List.replicate n 0) := Bytes.of_mem (fun x hx => by rw [List.eq_of_mem_replicate hx]; omega)
theorem row_zeros {w : World} {B g n : Nat} {E : TypeId} (h : w.ownsRow B E 1 (.slice (some ⟨g, 0, none⟩) n n) n (madeCells (Value.int .u8 0).cells (n * 1)).toList) : Row .u8 w (.slice (some ⟨g, 0, none⟩) n n) (List.replicate n 0) := by
  refine ⟨_, n, by simp, by simp, fun hp => ⟨g, 0, rfl, (World.ownsRow.lt h g rfl).2, fun i hi => ?_⟩⟩
  simp only [List.length_replicate] at hi
  have := World.ownsRow.cellAt h i (by omega)
  rw [Nat.zero_add, this]
  simp [madeCells, wd, hi, Value.cells, Nat.mod_one]

set_option maxRecDepth 100000 in
set_option maxHeartbeats 2000000 in
theorem ring_known {R : World → Value → (Nat → Prop) → Nat → List Nat → Nat → Prop} {T : World → Prop} (P : RingCalls R T) (w : World) (ht : T w) : Calls Try.prog 5 #[] w fun e w' => e = .returned (.bool true) ∧ Grew w w' := by
  have K := Lib.hid P.keep
  obtain ⟨ei, hei, hz0, hz1, hz2⟩ := info_parts infoU8
  have H0 := Lib.hid (P.new 64 w (by omega) (by omega) ht)
  go_enter Try.func5, Try.ntmps5
  go_wp2_with fail
  refine H0.out.mono ?_
  rintro e w1 ⟨g, F, rfl, hR, hF, G⟩
  have HR := Lib.hid hR
  have HF := Lib.hid hF
  obtain ⟨n1, n2, n3, n4⟩ := known_nums
  have N1 := Lib.hid n1; have N2 := Lib.hid n2; have N3 := Lib.hid n3; have N4 := Lib.hid n4
  clear hR H0 hF n1 n2 n3 n4
  go_wp2_with (refine wpList_make_full _ rfl _ _ 23 rfl 0 5 ei (.int .u8 0) 1 Try.underlying23 hei hz0 hz1 .i64 .i64 60 60 60 rfl rfl rfl rfl (by rw [hz2]; omega) (by unfold maxLen; omega) (Nat.zero_le _) ?_; intro w2 hown hgrow)
  have D2 := grew_made hgrow
  have H1 := P.put w2 _ F 64 [] 0 _ _ (P.grew HR.out D2) (row_zeros hown) (replicate_bytes 60) (by simp) (by omega) (fun _ k hk hFk => by cases hk; have := P.lt _ _ _ _ _ _ _ HR.out hFk; exact absurd this (Nat.lt_irrefl _)) (K.out _ _ ht (G.trans D2))
  rw [N1.out, N2.out] at H1
  have H1' := Lib.hid H1
  replace G := G.trans D2
  have HFG := HF.out
  clear H1 hown hgrow HR
  refine H1'.out.mono ?_
  rintro e w3 ⟨F3, rfl, hR, hF3, far⟩
  have G3 := far.grew G (fun k hk => HF.out k hk)
  have HF3 : Hid (∀ b, F3 b → w.heap.size ≤ b) := fun b hb => by
    rcases hF3 b hb with h | h
    · exact HF.out b h
    · exact Nat.le_trans G.size h
  have HR := Lib.hid hR
  clear hR hF3 far H1' HF HFG D2 G
  go_wp2_with (refine wpList_make_full _ rfl _ _ 23 rfl 0 5 ei (.int .u8 0) 1 Try.underlying23 hei hz0 hz1 .i64 .i64 10 10 10 rfl rfl rfl rfl (by rw [hz2]; omega) (by unfold maxLen; omega) (Nat.zero_le _) ?_; intro w4 hown hgrow)
  have D2 := grew_made hgrow
  have H1 := P.put w4 _ F3 64 _ _ _ _ (P.grew HR.out D2) (row_zeros hown) (replicate_bytes 10) (by simp) (by omega) (fun _ k hk hFk => by cases hk; have := P.lt _ _ _ _ _ _ _ HR.out hFk; exact absurd this (Nat.lt_irrefl _)) (K.out _ _ ht (G3.trans D2))
  rw [N3.out, N4.out] at H1
  have H1' := Lib.hid H1
  have G := G3.trans D2
  clear H1 hown hgrow HR
  refine H1'.out.mono ?_
  rintro e w5 ⟨F5, rfl, hR, hF5, far⟩
  have G5 := far.grew G (fun k hk => HF3.out k hk)
  have HF5 : Hid (∀ b, F5 b → w.heap.size ≤ b) := fun b hb => by
    rcases hF5 b hb with h | h
    · exact HF3.out b h
    · exact Nat.le_trans G.size h
  have H2 := Lib.hid (P.len _ _ _ _ _ _ hR (K.out _ _ ht G5))
  have HR := Lib.hid hR
  clear hR hF5 far H1' HF3 D2 G3 G
  go_wp2_with fail
  refine H2.out.mono ?_
  rintro e w6 ⟨rfl, g6⟩
  have H3 := Lib.hid (P.drop _ _ _ _ _ _ 100 (P.grew HR.out g6) (by omega) (K.out _ _ ht (G5.trans g6)))
  have G := G5.trans g6
  clear H2 HR g6 G5
  simp only [List.length_replicate]
  go_wp2_with fail
  refine H3.out.mono ?_
  rintro e w7 ⟨F7, rfl, hR, hF7, far⟩
  have G7 := far.grew G (fun k hk => HF5.out k hk)
  have H4 := Lib.hid (P.lost _ _ _ _ _ _ hR (K.out _ _ ht G7))
  clear H3 hR hF7 far HF5 G
  simp only [List.length_replicate]
  go_wp2_with fail
  refine H4.out.mono ?_
  rintro e w8 ⟨rfl, g8⟩
  go_wp2_with fail
  go_ret
  exact ⟨rfl, G7.trans g8⟩
end Go.Proofs.Ytabbfgidgcnddaa
