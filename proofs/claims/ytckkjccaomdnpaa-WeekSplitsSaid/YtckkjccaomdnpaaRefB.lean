/-
  Contracts of the document's sums, doubles and differences of sizes.
-/
import Derived.Test.YtckkjccaomdnpaaOwn
import Derived.Shelf.Bits.Mul64
namespace Go.Proofs.Ytckkjccaomdnpaa
open Go.RowKit
set_option linter.unusedVariables false

theorem mask32 (n : Nat) (h : n < 18446744073709551616) : bits BinOp.and IntKind.u64 (n : Int) 4294967295 = ((n % 4294967296 : Nat) : Int) := Mul64.maskN n h
theorem shr32 (n : Nat) : (n : Int) / 4294967296 = ((n / 4294967296 : Nat) : Int) := by omega

/-- What a made row of words comes to. -/
def Made (w : World) (n L : Nat) (e : Ending) (w' : World) : Prop :=
  ∃ v zs, e = .returned v ∧ Row .u64 w' v zs ∧ Words zs ∧ val zs = n ∧ zs.length ≤ L ∧ Grew w w'

set_option maxHeartbeats 1000000 in
theorem ref_joined (v u : Value) (xs ys : List Nat) (w : World) (h : Row .u64 w v xs) (k : Row .u64 w u ys) (hx : Words xs) (hy : Words ys) (hl : xs.length ≤ 1000000) (kl : ys.length ≤ 1000000) :
    Calls Try.prog 26 #[v, u] w (Made w (val xs + val ys) (max xs.length ys.length + 1)) := by
  obtain ⟨A, c, hA⟩ : ∃ A c, v = .slice A xs.length c := by obtain ⟨A, c, e, _⟩ := h; exact ⟨A, c, e⟩
  obtain ⟨B, d, hB⟩ : ∃ A c, u = .slice A ys.length c := by obtain ⟨A, c, e, _⟩ := k; exact ⟨A, c, e⟩
  subst hA hB
  go_enter Try.func26, Try.ntmps26
  go_wp2
  go_loopw [5, 6, 7] (fun v c p wr => ∃ (zs : List Nat) (cn : Nat), c = .int .u64 (cn : Nat) ∧ p = .int .i64 (zs.length : Nat) ∧ Own w.heap.size 49 .u64 wr v zs ∧ Words zs ∧ cn ≤ 1 ∧ Hid (sumTo (wd xs) zs.length + sumTo (wd ys) zs.length = val zs + cn * 4294967296 ^ zs.length) ∧ (zs.length ≤ max xs.length ys.length ∨ zs.length ≤ max xs.length ys.length + 1 ∧ cn ≤ 0) ∧ Grew w wr)
    (fun _ _ p _ => max xs.length ys.length + 1 - (intOf p).toNat)
  case atStart => exact ⟨[], 0, rfl, rfl, Own.nil _ _ _ _, Words.nil, by omega, by simp [Hid, sumTo, val], by left; simp, Grew.refl _⟩
  case round =>
    obtain ⟨zs, cn, rfl, rfl, ho, hz, hc, hs, hm, hg⟩ := hrel
    have hxr := h.grew hg
    have kyr := k.grew hg
    generalize hkk : zs.length = kk at *
    have HK := Lib.hid hkk
    clear hkk
    by_cases hend : xs.length ≤ kk ∧ ys.length ≤ kk ∧ cn ≤ 0
    · obtain ⟨e1, e2, e3⟩ := hend
      have hfin : Hid (val zs = val xs + val ys) := by
        have := hs.out
        rw [val_at e1, val_at e2, show cn = 0 by omega] at this
        show _ = _
        omega
      go_wp2
      go_ret
      exact ⟨_, zs, rfl, ho.row, hz, hfin.out, by rw [HK.out]; omega, hg⟩
    · have b1 := hx kk; have b2 := hy kk
      have hrnd : Hid _ := sum_round (x := wd xs kk) (y := wd ys kk) hs.out
      obtain ⟨S, hS⟩ : ∃ S, wd xs kk + wd ys kk + cn = S := ⟨_, rfl⟩
      rcases (show kk < xs.length ∨ (xs.length ≤ kk ∧ kk < ys.length) ∨ (xs.length ≤ kk ∧ ys.length ≤ kk ∧ 0 < cn) by omega) with t | ⟨t, t'⟩ | ⟨t, t', t''⟩
      all_goals
        have eS : (wd xs kk : Int) + (wd ys kk : Int) + (cn : Int) = (S : Int) := by omega
        have bS : S < 8589934592 := by omega
        obtain ⟨Z, eM, hZ, bZ⟩ : ∃ Z : Nat, bits BinOp.and IntKind.u64 (S : Int) 4294967295 = (Z : Int) ∧ Hid (S % 4294967296 = Z) ∧ Z < 4294967296 := ⟨_, mask32 S (by omega), rfl, Nat.mod_lt _ (by omega)⟩
        obtain ⟨C, eD, hC⟩ : ∃ C : Nat, (S : Int) / 4294967296 = (C : Int) ∧ Hid (S / 4294967296 = C) := ⟨_, shr32 S, rfl⟩
        have hC1 : C ≤ 1 := by have := hC.out; omega
        have HSS := Lib.hid hS
        clear hS
        go_wp2_with (first | (go_at_call 31; ((with_reducible refine (ref_word _ xs _ _ hxr (by omega) hl).mono ?_); rintro e w' ⟨rfl, rfl⟩)) | (go_at_call 31; ((with_reducible refine (ref_word _ ys _ _ kyr (by omega) kl).mono ?_); rintro e w' ⟨rfl, rfl⟩)) | (at_builtin; refine wpList_push _ rfl _ _ 35 rfl w.heap.size 49 .u64 8 Try.underlying35 infoU64 _ zs rfl (ho.alloc _) ⟨wr.heap.size, 0, none⟩ Z rfl (by simp) (by have := HK.out; omega) (by omega) (by have := hg.size; simp; omega) ?_; intro v1 w1 ho1 hg1))
        clear eM eS eD
        go_roundw
        case rel =>
          have hb := hrnd.out
          rw [HSS.out, hZ.out, hC.out] at hb
          have hk := HK.out
          refine ⟨zs ++ [Z], C, rfl, by simp [hk], ho1, hz.snoc bZ, hC1, ?_, ?_, (hg.alloc _).push (ho.alloc _) hg1⟩
          · show _ = _
            rw [val_snoc, List.length_append, List.length_singleton, hk, sumTo, sumTo, Nat.pow_succ]
            exact hb
          · rw [List.length_append, List.length_singleton, hk]
            have h1 := HSS.out; have h2 := hC.out
            first | omega | (right; refine ⟨by omega, ?_⟩; rw [wd_ge (by omega), wd_ge (by omega)] at h1; omega)
        case measure => simp [intOf]; omega

set_option maxHeartbeats 1000000 in
theorem ref_doubled (v : Value) (xs : List Nat) (more : Bool) (w : World) (h : Row .u64 w v xs) (hx : Words xs) (hl : xs.length ≤ 1000000) :
    Calls Try.prog 29 #[v, .bool more] w (Made w (2 * val xs + more.toNat) (xs.length + 1)) := by
  obtain ⟨A, c, hA⟩ : ∃ A c, v = .slice A xs.length c := by obtain ⟨A, c, e, _⟩ := h; exact ⟨A, c, e⟩
  subst hA
  obtain ⟨M, HM⟩ : ∃ M, Hid (more.toNat = M) := ⟨_, rfl⟩
  cases more
  all_goals
    go_enter Try.func29, Try.ntmps29
    go_wp2
    go_loopw [5, 6, 7] (fun v c p wr => ∃ (zs : List Nat) (cn : Nat), c = .int .u64 (cn : Nat) ∧ p = .int .i64 (zs.length : Nat) ∧ Own w.heap.size 49 .u64 wr v zs ∧ Words zs ∧ cn ≤ 1 ∧ Hid (2 * sumTo (wd xs) zs.length + M = val zs + cn * 4294967296 ^ zs.length) ∧ (zs.length ≤ xs.length ∨ zs.length ≤ xs.length + 1 ∧ cn ≤ 0) ∧ Grew w wr)
      (fun _ _ p _ => xs.length + 1 - (intOf p).toNat)
    case atStart => first | exact ⟨[], 0, rfl, rfl, Own.nil _ _ _ _, Words.nil, by omega, by have := HM.out; simp at this; simp [Hid, sumTo, val]; omega, by left; simp, Grew.refl _⟩ | exact ⟨[], 1, rfl, rfl, Own.nil _ _ _ _, Words.nil, by omega, by have := HM.out; simp at this; simp [Hid, sumTo, val]; omega, by left; simp, Grew.refl _⟩
    case round =>
      obtain ⟨zs, cn, rfl, rfl, ho, hz, hc, hs, hm, hg⟩ := hrel
      have hxr := h.grew hg
      generalize hkk : zs.length = kk at *
      have HK := Lib.hid hkk
      clear hkk
      by_cases hend : xs.length ≤ kk ∧ cn ≤ 0
      · obtain ⟨e1, e3⟩ := hend
        have hfin : Hid (val zs = 2 * val xs + M) := by
          have := hs.out
          rw [val_at e1, show cn = 0 by omega] at this
          show _ = _
          omega
        go_wp2
        go_ret
        exact ⟨_, zs, rfl, ho.row, hz, by rw [hfin.out, HM.out], by rw [HK.out]; omega, hg⟩
      · have b1 := hx kk
        have hrnd : Hid _ := double_round (x := wd xs kk) hs.out
        obtain ⟨S, hS⟩ : ∃ S, 2 * wd xs kk + cn = S := ⟨_, rfl⟩
        rcases (show kk < xs.length ∨ (xs.length ≤ kk ∧ 0 < cn) by omega) with t | ⟨t, t'⟩
        all_goals
          have eS : 2 * (wd xs kk : Int) + (cn : Int) = (S : Int) := by omega
          have bS : S < 8589934592 := by omega
          obtain ⟨Z, eM, hZ, bZ⟩ : ∃ Z : Nat, bits BinOp.and IntKind.u64 (S : Int) 4294967295 = (Z : Int) ∧ Hid (S % 4294967296 = Z) ∧ Z < 4294967296 := ⟨_, mask32 S (by omega), rfl, Nat.mod_lt _ (by omega)⟩
          obtain ⟨C, eD, hC⟩ : ∃ C : Nat, (S : Int) / 4294967296 = (C : Int) ∧ Hid (S / 4294967296 = C) := ⟨_, shr32 S, rfl⟩
          have hC1 : C ≤ 1 := by have := hC.out; omega
          have HSS := Lib.hid hS
          clear hS
          go_wp2_with (first | (go_at_call 31; ((with_reducible refine (ref_word _ xs _ _ hxr (by omega) hl).mono ?_); rintro e w' ⟨rfl, rfl⟩)) | (at_builtin; refine wpList_push _ rfl _ _ 35 rfl w.heap.size 49 .u64 8 Try.underlying35 infoU64 _ zs rfl (ho.alloc _) ⟨wr.heap.size, 0, none⟩ Z rfl (by simp) (by have := HK.out; omega) (by omega) (by have := hg.size; simp; omega) ?_; intro v1 w1 ho1 hg1))
          clear eM eS eD
          go_roundw
          case rel =>
            have hb := hrnd.out
            rw [HSS.out, hZ.out, hC.out] at hb
            have hk := HK.out
            refine ⟨zs ++ [Z], C, rfl, by simp [hk], ho1, hz.snoc bZ, hC1, ?_, ?_, (hg.alloc _).push (ho.alloc _) hg1⟩
            · show _ = _
              rw [val_snoc, List.length_append, List.length_singleton, hk, sumTo, Nat.pow_succ]
              exact hb
            · rw [List.length_append, List.length_singleton, hk]
              have h1 := HSS.out; have h2 := hC.out
              first | omega | (right; refine ⟨by omega, ?_⟩; rw [wd_ge (by omega)] at h1; omega)
          case measure => simp [intOf]; omega

set_option maxHeartbeats 1000000 in
theorem ref_parted (v u : Value) (xs ys : List Nat) (w : World) (h : Row .u64 w v xs) (k : Row .u64 w u ys) (hx : Words xs) (hy : Words ys) (hl : xs.length ≤ 1000000) (kl : ys.length ≤ 1000000) (hle : val ys ≤ val xs) :
    Calls Try.prog 28 #[v, u] w (Made w (val xs - val ys) xs.length) := by
  obtain ⟨A, c, hA⟩ : ∃ A c, v = .slice A xs.length c := by obtain ⟨A, c, e, _⟩ := h; exact ⟨A, c, e⟩
  obtain ⟨B, d, hB⟩ : ∃ A c, u = .slice A ys.length c := by obtain ⟨A, c, e, _⟩ := k; exact ⟨A, c, e⟩
  subst hA hB
  go_enter Try.func28, Try.ntmps28
  go_wp2
  go_loopw [5, 6, 7] (fun v c p wr => ∃ (zs : List Nat) (cn : Nat), c = .int .u64 (cn : Nat) ∧ p = .int .i64 (zs.length : Nat) ∧ Own w.heap.size 49 .u64 wr v zs ∧ Words zs ∧ cn ≤ 1 ∧ Hid (sumTo (wd xs) zs.length + cn * 4294967296 ^ zs.length = val zs + sumTo (wd ys) zs.length) ∧ zs.length ≤ xs.length ∧ Grew w wr)
    (fun _ _ p _ => xs.length - (intOf p).toNat)
  case atStart => exact ⟨[], 0, rfl, rfl, Own.nil _ _ _ _, Words.nil, by omega, by simp [Hid, sumTo, val], by simp, Grew.refl _⟩
  case round =>
    obtain ⟨zs, cn, rfl, rfl, ho, hz, hc, hs, hm, hg⟩ := hrel
    have hxr := h.grew hg
    have kyr := k.grew hg
    have hvl := Lib.hid (val_lt hz)
    generalize hkk : zs.length = kk at *
    have HK := Lib.hid hkk
    clear hkk
    by_cases hend : xs.length ≤ kk
    · have hfin : Hid (val zs = val xs - val ys) := by
        obtain rfl : kk = xs.length := by omega
        exact part_end hx hy hvl.out hc hle hs.out
      clear hvl
      go_wp2
      go_ret
      exact ⟨_, zs, rfl, ho.row, hz, hfin.out, by rw [HK.out]; omega, hg⟩
    · have b1 := hx kk; have b2 := hy kk
      have hrnd : Hid _ := part_round hs.out b1 b2 hc
      obtain ⟨b, o, rfl, hb, hcell⟩ := hxr.at_ (i := kk) (by omega)
      obtain ⟨S, hS⟩ : ∃ S, 4294967296 + wd xs kk - wd ys kk - cn = S := ⟨_, rfl⟩
      have eS : 4294967296 + (wd xs kk : Int) - (wd ys kk : Int) - (cn : Int) = (S : Int) := by omega
      have bS : S < 8589934592 := by omega
      obtain ⟨Z, eM, hZ, bZ⟩ : ∃ Z : Nat, bits BinOp.and IntKind.u64 (S : Int) 4294967295 = (Z : Int) ∧ Hid (S % 4294967296 = Z) ∧ Z < 4294967296 := ⟨_, mask32 S (by omega), rfl, Nat.mod_lt _ (by omega)⟩
      obtain ⟨C, eD, hC, bC⟩ : ∃ C : Nat, (S : Int) / 4294967296 = (C : Int) ∧ Hid (S / 4294967296 = C) ∧ C ≤ 1 := ⟨_, shr32 S, rfl, by omega⟩
      have HSS := Lib.hid hS
      clear hS hvl
      go_wp2
      go_quiet ((go_at_call 31; exact Calls.quiet_of_same ((ref_word _ ys _ _ (kyr.grew ((Grew.refl _).drewN _)) (by omega) kl).mono fun _ _ h => ⟨h.1, h.2.symm⟩)))
      go_wp2_with (at_builtin; refine wpList_push _ rfl _ _ 35 rfl w.heap.size 49 .u64 8 Try.underlying35 infoU64 _ zs rfl ((ho.drewN nq).alloc _) ⟨wr.heap.size, 0, none⟩ Z rfl (cell_new (wr.drewN nq) _ _) (by have := HK.out; omega) (by omega) (Nat.le_trans hg.size (size_new (wr.drewN nq) _)) ?_; intro v1 w1 ho1 hg1)
      clear eM eS eD
      go_roundw
      case rel =>
        have hb := hrnd.out
        rw [HSS.out, hZ.out, hC.out] at hb
        have hk := HK.out
        refine ⟨zs ++ [Z], 1 - C, by simp; omega, by simp [hk], ho1, hz.snoc bZ, by omega, ?_, ?_, ((hg.drewN nq).alloc _).push ((ho.drewN nq).alloc _) hg1⟩
        · show _ = _
          rw [val_snoc, List.length_append, List.length_singleton, hk, sumTo, sumTo, Nat.pow_succ]
          exact hb
        · rw [List.length_append, List.length_singleton, hk]; omega
      case measure => simp [intOf]; omega
end Go.Proofs.Ytckkjccaomdnpaa
