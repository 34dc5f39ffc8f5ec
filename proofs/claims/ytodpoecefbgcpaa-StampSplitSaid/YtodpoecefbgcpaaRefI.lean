/-
  Contracts of the document's numbers: powers of 2, quotients held.
-/
import Derived.Test.YtodpoecefbgcpaaRefH
namespace Go.Proofs.Ytodpoecefbgcpaa
open Go.RowKit
set_option linter.unusedVariables false

/-- What a call tells that makes a number, noughts at the top let in. -/
def TellsL (w : World) (n : Int) (L : Nat) (e : Ending) (w' : World) : Prop := ∃ v, e = .returned v ∧ Num w' v n L ∧ Grew w w'

theorem Row.one (k : IntKind) (w : World) (E : TypeId) (x : Nat) : Row k (w.alloc (.cells #[.int k (x : Nat)] E)) (.slice (some ⟨w.heap.size, 0, none⟩) 1 1) [x] := by
  refine ⟨_, 1, rfl, by simp, fun _ => ⟨w.heap.size, 0, rfl, by simp, fun i hi => ?_⟩⟩
  obtain rfl : i = 0 := by simp at hi; omega
  simp [wd]
theorem one_row (w : World) (o : Obj) (E : TypeId) : ∃ zs, Row .u64 ((w.alloc o).alloc (.cells #[.int .u64 1] E)) (.slice (some ⟨w.heap.size + 1, 0, none⟩) 1 1) zs ∧ Words zs ∧ val zs = 1 ∧ zs.length = 1 := by
  refine ⟨[1], ?_, fun i => ?_, by simp [val, sumTo, wd], rfl⟩
  · have := Row.one .u64 (w.alloc o) E 1
    rw [World.size_alloc] at this
    exact this
  · unfold wd; match i with
    | 0 => simp
    | i + 1 => simp
theorem Num.set {w : World} {v : Value} {n : Int} {L : Nat} (h : Num w v n L) {p : Addr} {u x : Value} (hp : w.cell? p = some u) (hu : ∀ k m, u ≠ .int k m) : Num (w.setCell p x) v n L := by
  obtain ⟨sl, xs, h1, h2, h3⟩ := h; exact ⟨sl, xs, h1, h2.set hp hu, h3⟩

set_option maxHeartbeats 1000000 in
theorem ref_Two (p : Int) (w : World) (hp : 0 ≤ p) (hp' : p ≤ 1000) :
    Calls Try.prog 21 #[.int .u64 p] w (TellsL w (2 ^ p.toNat) (p.toNat + 1)) := by
  obtain ⟨P, rfl⟩ := Int.eq_ofNat_of_zero_le hp
  rw [Int.toNat_natCast]
  go_enter Try.func21, Try.ntmps21
  go_wp2
  obtain ⟨zs0, hr0, hw0, hv0, hl0⟩ := one_row w (.cells #[.bool false, .slice none 0 0] 40) 23
  obtain ⟨W, hW, g0, B0⟩ : ∃ W, (w.alloc (.cells #[.bool false, .slice none 0 0] 40)).alloc (.cells #[.int .u64 1] 23) = W ∧ Grew w W ∧ Blank W w.heap.size := ⟨_, rfl, ((Grew.refl _).alloc _).alloc _, (Blank.new _ _).grew ((Grew.refl _).alloc _)⟩
  rw [hW] at hr0 ⊢
  clear hW
  go_loopw [0, 3] (fun p v wr => ∃ (q : Nat) (zs : List Nat), p = .int .u64 (q : Nat) ∧ q ≤ P ∧ Row .u64 wr v zs ∧ Words zs ∧ Hid (val zs = 2 ^ (P - q)) ∧ zs.length ≤ P - q + 1 ∧ Grew W wr) (fun p _ _ => (intOf p).toNat)
  case atStart => exact ⟨P, zs0, rfl, Nat.le_refl _, hr0, hw0, by show _ = _; rw [hv0, Nat.sub_self, Nat.pow_zero], by omega, Grew.refl _⟩
  case round =>
    obtain ⟨q, zs, rfl, hq, hr, hw, hv, hl, hg⟩ := hrel
    obtain ⟨A0, c0, rfl, _⟩ := hr.form
    clear hv0
    by_cases h0 : q = 0
    · subst h0
      obtain ⟨k0, k1, k2, k3, k4⟩ := B0.grew hg
      go_wp2
      refine bodyPost_ret (by simp [results, Try.results21, go_sem, k0, k1]; try rfl) rfl ?_
      have hN : Num wr (.agg #[.bool false, .slice A0 zs.length c0]) ((2 ^ P : Nat) : Int) (P + 1) := ⟨_, zs, by rw [decide_eq_false (Int.not_lt.2 (Int.natCast_nonneg _))], hr, hw, by have := hv.out; rw [Nat.sub_zero] at this; rw [this]; simp, by omega⟩
      have e : ((2 ^ P : Nat) : Int) = (2 : Int) ^ P := by simp
      rw [e] at hN
      refine ⟨_, rfl, (hN.set k0 (fun _ _ h => by cases h)).set (u := .slice none 0 0) ?_ (fun _ _ h => by cases h), ((g0.trans hg).setCell (Nat.le_refl _) _).setCell (Nat.le_refl _) _⟩
      rw [World.cell?_setCell_other _ _ _ _ (by simp)]
      exact k1
    · go_wp2_with (go_at_call 33; refine (ref_doubled _ zs false _ hr hw (by omega)).mono ?_; rintro e w1 ⟨v1, zs1, rfl, hr1, hz1, hv1, hl1, hg1⟩; have HV1 := Lib.hid hv1; clear hv1)
      go_roundw
      case rel =>
        refine ⟨q - 1, zs1, by simp; omega, by omega, hr1, hz1, ?_, by omega, hg.trans hg1⟩
        show _ = _
        rw [HV1.out, hv.out, show P - (q - 1) = (P - q) + 1 by omega, Nat.pow_succ]
        simp; omega
      case measure => simp [intOf]; omega
end Go.Proofs.Ytodpoecefbgcpaa
