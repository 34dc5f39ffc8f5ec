/-
  Slices that read as lists of numbers; contracts of the document's words and bits.
-/
import Derived.Test.YtckkjccaomdnpaaGrew
import Derived.Test.YtckkjccaomdnpaaNum
import Derived.Test.YtckkjccaomdnpaaBig
import Derived.Laws.OwnMore
import Derived.OwnWalk
import Derived.Handy
namespace Go.Proofs.Ytckkjccaomdnpaa
open Go.RowKit
set_option linter.unusedVariables false

/-- A slice value that reads as the numbers ns of kind k: its cells lie in blocks that are there. -/
def Row (k : IntKind) (w : World) (v : Value) (ns : List Nat) : Prop :=
  ∃ (A : Option Addr) (c : Nat), v = .slice A ns.length c ∧ ns.length ≤ c ∧
    (0 < ns.length → ∃ b o, A = some ⟨b, o, none⟩ ∧ b < w.heap.size ∧ ∀ i, i < ns.length → w.cell? ⟨b, o + i, none⟩ = some (.int k (wd ns i : Nat)))

theorem Row.grew {k : IntKind} {w w' : World} {v : Value} {ns : List Nat} (h : Row k w v ns) (g : Grew w w') : Row k w' v ns := by
  obtain ⟨A, c, rfl, hc, hr⟩ := h
  refine ⟨A, c, rfl, hc, fun hn => ?_⟩
  obtain ⟨b, o, rfl, hb, hcell⟩ := hr hn
  exact ⟨b, o, rfl, Nat.lt_of_lt_of_le hb g.size, fun i hi => (g.cell (p := ⟨b, o + i, none⟩) hb).trans (hcell i hi)⟩
theorem Row.nil (k : IntKind) (w : World) : Row k w (.slice none 0 0) [] := ⟨none, 0, rfl, by simp, fun h => by simp at h⟩

theorem Row.form {k : IntKind} {w : World} {v : Value} {ns : List Nat} (h : Row k w v ns) : ∃ A c, v = .slice A ns.length c ∧ ns.length ≤ c := by
  obtain ⟨A, c, e, hc, _⟩ := h; exact ⟨A, c, e, hc⟩
theorem Row.at_ {k : IntKind} {w : World} {A : Option Addr} {n c : Nat} {ns : List Nat} (h : Row k w (.slice A n c) ns) {i : Nat} (hi : i < ns.length) :
    ∃ b o, A = some ⟨b, o, none⟩ ∧ b < w.heap.size ∧ w.cell? ⟨b, o + i, none⟩ = some (.int k (wd ns i : Nat)) := by
  obtain ⟨A', c', e, _, hr⟩ := h
  obtain ⟨b, o, e2, hb, hcl⟩ := hr (by omega)
  simp only [Value.slice.injEq] at e
  exact ⟨b, o, e.1.trans e2, hb, hcl i hi⟩

theorem Row.take {k : IntKind} {w : World} {A : Option Addr} {n c m : Nat} {ns : List Nat} (h : Row k w (.slice A n c) ns) (hm : m ≤ ns.length) : Row k w (.slice A m c) (ns.take m) := by
  obtain ⟨A', c', e, hc, hr⟩ := h
  simp only [Value.slice.injEq] at e
  obtain ⟨rfl, rfl, rfl⟩ := e
  have hl : (ns.take m).length = m := by rw [List.length_take]; omega
  refine ⟨A, c, by rw [hl], by omega, fun hp => ?_⟩
  obtain ⟨b, o, e2, hb, hcl⟩ := hr (by omega)
  refine ⟨b, o, e2, hb, fun i hi => ?_⟩
  rw [hcl i (by omega)]
  have : wd (ns.take m) i = wd ns i := by unfold wd; rw [List.getD_eq_getElem?_getD, List.getElem?_take, if_pos (by omega), List.getD_eq_getElem?_getD]
  rw [this]

theorem ref_word (v : Value) (xs : List Nat) (p : Int) (w : World) (h : Row .u64 w v xs) (hp : 0 ≤ p) (hl : xs.length ≤ 1000000) :
    Calls Try.prog 31 #[v, .int .i64 p] w fun e w' => e = .returned (.int .u64 (wd xs p.toNat : Nat)) ∧ w = w' := by
  obtain ⟨p, rfl⟩ := Int.eq_ofNat_of_zero_le hp
  rw [Int.toNat_natCast]
  obtain ⟨A, c, rfl, hc, hr⟩ := h
  by_cases hlt : p < xs.length
  · obtain ⟨b, o, rfl, hb, hcell⟩ := hr (by omega)
    have hx := hcell p hlt
    clear hr hcell
    go_enter Try.func31, Try.ntmps31
    go_wp2
    go_ret
    exact ⟨rfl, rfl⟩
  · clear hr
    go_enter Try.func31, Try.ntmps31
    go_wp2
    go_ret
    exact ⟨ret_int (by rw [wd_ge (by omega)]; rfl), rfl⟩

/-- Is bit j of the number set? -/
def bitAt (xs : List Nat) (j : Nat) : Bool := decide (val xs / 2 ^ j % 2 = 1)
theorem and_one (n : Nat) (h : n < 18446744073709551616) : bits BinOp.and IntKind.u64 (n : Int) 1 = ((n % 2 : Nat) : Int) := by
  have := bits_and_u64_nat n 1 h (by omega)
  rw [Nat.and_one_is_mod] at this
  exact this

theorem ref_isSet (v : Value) (xs : List Nat) (p : Int) (w : World) (h : Row .u64 w v xs) (hw : Words xs) (hp : 0 ≤ p) (hp' : p ≤ 1000000000) (hl : xs.length ≤ 1000000) :
    Calls Try.prog 30 #[v, .int .i64 p] w fun e w' => e = .returned (.bool (bitAt xs p.toNat)) ∧ w = w' := by
  obtain ⟨p, rfl⟩ := Int.eq_ofNat_of_zero_le hp
  rw [Int.toNat_natCast]
  have hb := hw (p / 32)
  have hB := Lib.hid (bit_of hw p)
  go_enter Try.func30, Try.ntmps30
  go_wp2_with (go_at_call 31; refine (ref_word _ xs _ _ h (by omega) hl).mono ?_; rintro e w' ⟨rfl, rfl⟩)
  go_ret
  refine ⟨?_, rfl⟩
  have e : ((wd xs (p / 32) : Nat) : Int) / 2 ^ (p % 32) = ((wd xs (p / 32) / 2 ^ (p % 32) : Nat) : Int) := by simp
  have hd : wd xs (p / 32) / 2 ^ (p % 32) ≤ wd xs (p / 32) := Nat.div_le_self _ _
  show Ending.returned (Value.bool (bits BinOp.and IntKind.u64 (↑(wd xs (p / 32)) / 2 ^ (p % 32)) 1 == 1)) = _
  rw [e, and_one _ (by omega)]
  congr 2
  unfold bitAt
  rw [hB.out, Bool.eq_iff_iff]
  simp
  omega

/-- Which of two numbers is the larger one. -/
def cmpOf (x y : Nat) : Int := if y < x then 1 else if x < y then -1 else 0

set_option maxHeartbeats 400000 in
theorem ref_larger (v u : Value) (xs ys : List Nat) (w : World) (h : Row .u64 w v xs) (k : Row .u64 w u ys) (hx : Words xs) (hy : Words ys) (hl : xs.length ≤ 1000000) (kl : ys.length ≤ 1000000) :
    Calls Try.prog 27 #[v, u] w fun e w' => e = .returned (.int .i64 (cmpOf (val xs) (val ys))) ∧ w = w' := by
  obtain ⟨A, c, hA⟩ : ∃ A c, v = .slice A xs.length c := by obtain ⟨A, c, e, _⟩ := h; exact ⟨A, c, e⟩
  obtain ⟨B, d, hB⟩ : ∃ A c, u = .slice A ys.length c := by obtain ⟨A, c, e, _⟩ := k; exact ⟨A, c, e⟩
  subst hA hB
  go_enter Try.func27, Try.ntmps27
  go_wp2
  go_loop [5] (fun a => ∃ p : Int, a = .int .i64 p ∧ -1 ≤ p ∧ p ≤ xs.length + ys.length ∧ Hid (∀ i : Nat, p < i → wd xs i = wd ys i)) (fun a => (intOf a + 1).toNat)
  case atStart => exact ⟨_, rfl, by omega, by omega, fun i hi => by rw [wd_ge (by omega), wd_ge (by omega)]⟩
  case round =>
    obtain ⟨p, rfl, hp, hp', H⟩ := hrel
    by_cases hneg : p < 0
    · have hv : Hid (val xs = val ys) := val_eq (fun i => H.out i (by omega))
      go_wp2
      go_ret
      exact ⟨ret_int (by rw [hv.out]; simp [cmpOf]), rfl⟩
    · rcases Nat.lt_trichotomy (wd xs p.toNat) (wd ys p.toNat) with hlt | heq | hgt
      · have hv : Hid (val xs < val ys) := val_gt hy hx hlt (fun i hi => (H.out i (by omega)).symm)
        go_wp2_with (first | (go_at_call 31; ((with_reducible refine (ref_word _ xs _ _ h (by omega) hl).mono ?_); rintro e w' ⟨rfl, rfl⟩)) | (go_at_call 31; ((with_reducible refine (ref_word _ ys _ _ k (by omega) kl).mono ?_); rintro e w' ⟨rfl, rfl⟩)))
        go_ret
        exact ⟨ret_int (by have := hv.out; unfold cmpOf; rw [if_neg (by omega), if_pos (by omega)]), rfl⟩
      · have HE := Lib.hid heq
        have t1 : ¬ (wd ys p.toNat : Int) < (wd xs p.toNat : Int) := by omega
        have t2 : ¬ (wd xs p.toNat : Int) < (wd ys p.toNat : Int) := by omega
        clear heq
        go_wp2_with (first | (go_at_call 31; ((with_reducible refine (ref_word _ xs _ _ h (by omega) hl).mono ?_); rintro e w' ⟨rfl, rfl⟩)) | (go_at_call 31; ((with_reducible refine (ref_word _ ys _ _ k (by omega) kl).mono ?_); rintro e w' ⟨rfl, rfl⟩)))
        go_round
        case rel => exact ⟨_, rfl, by omega, by omega, fun i hi => by
            by_cases e : (i : Int) = p
            · have := HE.out; rw [show p.toNat = i by omega] at this; exact this
            · exact H.out i (by omega)⟩
        case measure => simp [intOf]; omega
      · have hv : Hid (val ys < val xs) := val_gt hx hy hgt (fun i hi => H.out i (by omega))
        go_wp2_with (first | (go_at_call 31; ((with_reducible refine (ref_word _ xs _ _ h (by omega) hl).mono ?_); rintro e w' ⟨rfl, rfl⟩)) | (go_at_call 31; ((with_reducible refine (ref_word _ ys _ _ k (by omega) kl).mono ?_); rintro e w' ⟨rfl, rfl⟩)))
        go_ret
        exact ⟨ret_int (by have := hv.out; unfold cmpOf; rw [if_pos (by omega)]), rfl⟩
end Go.Proofs.Ytckkjccaomdnpaa
