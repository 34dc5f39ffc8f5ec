/-
  The program's frames: so many bytes of a ring, whatever they are; as many as a length says.
-/
import Derived.Test.YtkoklmecijejkaaFrpB
import Derived.Laws.Bits64b
namespace Go.Proofs.Ytkoklmecijejkaa
open Go.RowKit
set_option linter.unusedVariables false

section
variable {R0 : World → Prop} {v : Value} {F : Nat → Prop} {size : Nat} {L : List Nat} {w w' : World} {a b k : Nat}
/-- So many bytes, if there are so many. -/
def TakeT (R0 : World → Prop) (v : Value) (F : Nat → Prop) (L : List Nat) (a b k n : Nat) (w : World) (e : Ending) (w' : World) : Prop :=
  ∃ j A m c st, e = .returned (.tuple #[.slice A m c, .int .i64 (st : Nat)]) ∧ j ≤ n ∧ (k + n ≤ L.length → st = 2 ∧ j = n ∧ Own w.heap.size 5 .u8 w' (.slice A m c) ((L.drop k).take n)) ∧ (L.length < k + n → st = 0 ∧ m = 0) ∧ AtK R0 v F w' a b (k + j) ∧ Far (fun x => x = b) w w'
theorem Far.over {F : Nat → Prop} {w0 w1 : World} (h : Far F w0 w1) {p : Addr} (hp : F p.block ∨ w0.heap.size ≤ p.block) (u : Value) : Far F w0 (w1.setCell p u) :=
  ⟨h.os, h.tape, h.output, by simpa [World.setCell] using h.size, fun x hx hF => by
    rw [Below.heap_setCell _ _ _ _ (fun e => by rcases hp with hp | hp; · exact hF (e ▸ hp)
                                                · omega)]
    exact h.block x hx hF⟩
/-- The bytes behind, and zeros. -/
def pad (L : List Nat) (k n : Nat) : List Nat := L.drop k ++ List.replicate n 0
theorem pad_length (L : List Nat) (k n : Nat) : n ≤ (pad L k n).length := by unfold pad; rw [List.length_append, List.length_replicate]; omega
theorem pad_wd (L : List Nat) (k n i : Nat) (h : k + i < L.length) : wd (pad L k n) i = wd L (k + i) := by
  unfold pad
  rw [wd_append_left (by rw [List.length_drop]; omega), wd_cut]
theorem pad_take (L : List Nat) (k n : Nat) (h : k + n ≤ L.length) : (pad L k n).take n = (L.drop k).take n := by
  unfold pad
  rw [List.take_append_of_le_length (by rw [List.length_drop]; omega)]

set_option maxRecDepth 100000 in
set_option maxHeartbeats 2000000 in
theorem look_take (P : Looked R0 v F size L) (w : World) (a b k n : Nat) (h : AtK R0 v F w a b k) (hk : k ≤ L.length) (hn : n ≤ 2000) :
    Calls Try.prog 61 #[bv a b size, .int .i64 (n : Nat)] w (TakeT R0 v F L a b k n w) := by
  have hL : L.length ≤ 4096 := Nat.le_trans P.ll P.ls
  have HN := fun w' j (q : AtK R0 v F w' a b j) (hj : j ≤ 50000) => Lib.hid (look_next P w' a b j q hj)
  have HL := Lib.hid P.bytes
  have HP := Lib.hid P
  have HA := Lib.hid h
  have hlb := h.lb
  obtain ⟨ei, hei, hz0, hz1, hz2⟩ := info_parts infoU8
  unfold bv
  clear h P
  go_enter Try.func61, Try.ntmps61
  go_upto_region 1 with fail
  obtain ⟨W, hW, gW, c0, hWlt, -, -⟩ := newB w (.func (.func 37) #[] #[.pointer (some ⟨a, 0, none⟩), .pointer (some ⟨b, 0, none⟩)]) (.int .i64 (size : Nat)) 74
  rw [hW]
  have HA0 := Lib.hid (HA.out.grew HP.out gW)
  clear hW
  go_wp2_with (refine wpList_make_full _ rfl _ _ 23 rfl w.heap.size 5 ei (.int .u8 0) 1 Try.underlying23 hei hz0 hz1 .i64 .i64 n n n rfl rfl rfl rfl (by rw [hz2]; omega) (by unfold maxLen; omega) gW.size ?_; intro w3 hown hgrow)
  have G3 := gW.trans (grew_made hgrow)
  have HA3 := Lib.hid (HA0.out.grew HP.out (grew_made hgrow))
  have d0 := ((grew_made hgrow).cell (p := ⟨w.heap.size, 0, none⟩) hWlt).trans c0
  have hO := Lib.hid (own_zeros hown)
  rw [← toldOf_zero (pad L k n) n] at hO
  have hwl : w.heap.size < w3.heap.size := Nat.lt_of_lt_of_le hWlt (grew_made hgrow).size
  have hX : w.heap.size < W.heap.size := hWlt
  generalize W.heap.size = X at *
  clear hown hgrow HA0 c0 hWlt
  go_wp2_with fail
  go_loopw [14] (fun i wr => ∃ j : Nat, j ≤ n ∧ i = .int .i64 (j : Nat) ∧ k + j ≤ L.length ∧ Hid (Own w.heap.size 5 .u8 wr (.slice (some ⟨X, 0, none⟩) n n) (toldOf (pad L k n) n j)) ∧ Hid (AtK R0 v F wr a b (k + j)) ∧ Hid (Far (fun x => x = b) w wr) ∧ Hid (wr.cell? ⟨w.heap.size, 0, none⟩ = some (.func (.func 37) #[] #[.pointer (some ⟨a, 0, none⟩), .pointer (some ⟨b, 0, none⟩)]))) (fun i _ => n - (intOf i).toNat)
  case atStart => exact ⟨0, by omega, rfl, by omega, hO, HA3.out, Far.of_grew G3, d0⟩
  case round =>
    clear HA3 hO G3 d0
    obtain ⟨j, hj, rfl, hkj, hO, hA, hF, hD⟩ := hrel
    have d0 := hD.out
    by_cases hlt : j < n
    · have H1 := HN wr (k + j) hA.out (by omega)
      have j0 : (0 : Int) ≤ j := by omega
      have j1 : (j : Int) < n := by omega
      have x2 := HL.out (k + j)
      have hlen := toldOf_length (pad L k n) n j hj (pad_length L k n)
      by_cases hll : k + j < L.length
      · have hd : decide (k + j < L.length) = true := decide_eq_true hll
        have hst := Lib.hid (toldOf_set (pad L k n) n j hlt (pad_length L k n))
        rw [pad_wd L k n j hll] at hst
        unfold NextT at H1
        rw [hd] at H1
        clear hd
        generalize wd L (k + j) = x at *
        go_wp2_with fail
        refine H1.out.mono ?_
        rintro e w1 ⟨rfl, hA1, hF1⟩
        have hO1 := Lib.hid (hO.out.far hF1 (fun y hy e => by simp only [Value.ownBlock, Option.some.injEq] at hy; omega))
        have hlw : w.heap.size < wr.heap.size := World.block_lt_of_cell? wr ⟨w.heap.size, 0, none⟩ d0
        have d1 := (hF1.cell (p := ⟨w.heap.size, 0, none⟩) hlw (by simp only; omega)).trans d0
        obtain ⟨⟨x0, t0⟩, f0⟩ := own_cellP hO1.out (i := j) (by rw [hlen]; exact hlt)
        have hA2 := Lib.hid (hA1.far HP.out (Far.one w1 ⟨X, j, none⟩ (.int .u8 (x : Nat))) (fun y hy => ⟨fun e => by have := HA.out.la; simp only at hy; omega, fun e => by simp only at hy; omega, fun e => by have := HP.out.lt w y HA.out.r e; simp only at hy; omega⟩))
        have hO2 := hO1.out.set j x (by rw [hlen]; exact hlt)
        rw [hst.out] at hO2
        have hO2 := Lib.hid hO2
        have d2 : Hid ((w1.setCell ⟨X, j, none⟩ (.int .u8 (x : Nat))).cell? ⟨w.heap.size, 0, none⟩ = some (.func (.func 37) #[] #[.pointer (some ⟨a, 0, none⟩), .pointer (some ⟨b, 0, none⟩)])) := by
          show _ = _
          rw [World.cell?_setCell_other _ _ _ _ (fun e => by injection e with e1; omega)]
          exact d1
        have hF2 : Hid (Far (fun y => y = b) w (w1.setCell ⟨X, j, none⟩ (.int .u8 (x : Nat)))) := by
          exact (hF.out.trans hF1).over (.inr (by simp only; omega)) _
        clear hst hO hA hF hD hA1 hO1 HA H1
        go_wp2_with fail
        go_roundw
        case rel => exact ⟨j + 1, by omega, by simp, by omega, hO2, hA2, hF2, d2⟩
        case measure => simp [intOf]; omega
      · have hd : decide (k + j < L.length) = false := decide_eq_false hll
        unfold NextT at H1
        rw [hd] at H1
        clear hd
        generalize wd L (k + j) = x at *
        go_wp2_with fail
        refine H1.out.mono ?_
        rintro e w1 ⟨rfl, hA1, hF1⟩
        replace hA1 := Lib.hid hA1
        replace hF1 := Lib.hid hF1
        go_wp2_with fail
        go_ret2
        exact ⟨j + 1, none, 0, 0, 0, rfl, by omega, fun h => by omega, fun _ => ⟨rfl, rfl⟩, hA1.out, hF.out.trans hF1.out⟩
    · obtain rfl : j = n := by omega
      go_wp2_with fail
      go_ret2
      exact ⟨j, _, j, j, 2, rfl, Nat.le_refl _, fun h => ⟨rfl, rfl, by rw [← pad_take L k j hkj, ← toldOf_full (pad L k j) j]; exact hO.out⟩, fun h => by omega, hA.out, hF.out⟩

theorem bits_or_i64_n (x y : Nat) (hx : x < 4294967296) (hy : y < 4294967296) : bits .or .i64 (x : Int) (y : Int) = ((x ||| y : Nat) : Int) := by
  have hx' : x < 2 ^ 32 := hx
  have hy' : y < 2 ^ 32 := hy
  have hz : x ||| y < 2 ^ 32 := Nat.or_lt_two_pow hx' hy'
  have h1 : (BitVec.ofInt 64 (x : Int)).toNat = x := by rw [BitVec.ofInt_natCast, BitVec.toNat_ofNat]; exact Nat.mod_eq_of_lt (by omega)
  have h2 : (BitVec.ofInt 64 (y : Int)).toNat = y := by rw [BitVec.ofInt_natCast, BitVec.toNat_ofNat]; exact Nat.mod_eq_of_lt (by omega)
  show IntKind.i64.wrap ((BitVec.ofInt 64 (x : Int) ||| BitVec.ofInt 64 (y : Int)).toNat : Int) = _
  rw [BitVec.toNat_or, h1, h2, IntWalk.i64_in _ (by omega)]
theorem or_word (x y : Nat) (hx : x < 256) (hy : y < 256) : bits .or .i64 ((x : Int) * 256) (y : Int) = ((256 * x + y : Nat) : Int) := by
  have := bits_or_i64_n (x * 256) y (by omega) (by omega)
  rw [show ((x * 256 : Nat) : Int) = (x : Int) * 256 by omega] at this
  rw [this, show x * 256 = x <<< 8 from (Nat.shiftLeft_eq x 8).symm, ← Nat.shiftLeft_add_eq_or_of_lt (show y < 2 ^ 8 from hy), Nat.shiftLeft_eq]
  omega

/-- As many bytes as a length says, or 1 if it says too many. -/
def PayT (R0 : World → Prop) (v : Value) (F : Nat → Prop) (L : List Nat) (size a b k n most : Nat) (w : World) (e : Ending) (w' : World) : Prop :=
  if most < n ∨ size < n + 8 then e = .returned (.tuple #[.slice none 0 0, .int .i64 1]) ∧ Grew w w' else TakeT R0 v F L a b k n w e w'
theorem TakeT.up {n : Nat} {w0 : World} {e : Ending} (g : Grew w0 w) (h : TakeT R0 v F L a b k n w e w') : TakeT R0 v F L a b k n w0 e w' := by
  obtain ⟨j, A, m, c, st, rfl, hj, h1, h2, hA, hF⟩ := h
  exact ⟨j, A, m, c, st, rfl, hj, fun hk => ⟨(h1 hk).1, (h1 hk).2.1, own_base (h1 hk).2.2 g.size⟩, h2, hA, (Far.of_grew g).trans hF⟩
set_option maxRecDepth 100000 in
set_option maxHeartbeats 2000000 in
theorem look_payload (P : Looked R0 v F size L) (w : World) (a b k x y most : Nat) (h : AtK R0 v F w a b k) (hk : k ≤ L.length) (hx : x < 256) (hy : y < 256) (hm : most ≤ 1023) :
    Calls Try.prog 62 #[bv a b size, .int .u8 (x : Nat), .int .u8 (y : Nat), .int .i64 (most : Nat)] w (PayT R0 v F L size a b k (256 * x + y) most w) := by
  have hsz := P.ls
  have HT := fun w' n (g : Grew w w') (hn : n ≤ 2000) => Lib.hid (look_take P w' a b k n (h.grew P g) hk hn)
  have ho := or_word x y hx hy
  have hs : IntKind.i64.wrap ((x : Int) * 256) = (x : Int) * 256 := IntWalk.i64_in _ (by omega)
  obtain ⟨n, hn⟩ : ∃ n, 256 * x + y = n := ⟨_, rfl⟩
  have hnl : n < 65536 := by omega
  rw [hn] at ho ⊢
  clear hn
  unfold PayT
  unfold bv at HT ⊢
  have e8 : IntKind.i64.wrap ((n : Int) + 8) = (n : Int) + 8 := IntWalk.i64_in _ (by omega)
  by_cases h1 : most < n
  · simp only [show (most < n ∨ size < n + 8) from .inl h1, if_true]
    have c1 : (most : Int) < n := by omega
    clear HT h1
    go_enter Try.func62, Try.ntmps62
    go_wp2_with fail
    go_ret2
    exact ⟨rfl, (Grew.refl w).alloc _⟩
  · have c1 : ¬ (most : Int) < n := by omega
    by_cases h2 : size < n + 8
    · simp only [show (most < n ∨ size < n + 8) from .inr h2, if_true]
      have c2 : (size : Int) < (n : Int) + 8 := by omega
      clear HT h1
      go_enter Try.func62, Try.ntmps62
      go_wp2_with fail
      go_ret2
      exact ⟨rfl, (Grew.refl w).alloc _⟩
    · simp only [show ¬ (most < n ∨ size < n + 8) by omega, if_false]
      have c2 : ¬ (size : Int) < (n : Int) + 8 := by omega
      have hT := HT _ n ((Grew.refl w).alloc (.cells #[.func (.func 37) #[] #[.pointer (some ⟨a, 0, none⟩), .pointer (some ⟨b, 0, none⟩)], .int .i64 (size : Nat)] 74)) (by omega)
      clear HT h1 h2
      go_enter Try.func62, Try.ntmps62
      go_wp2_with fail
      refine hT.out.mono ?_
      rintro e w1 hh
      replace hh := hh.up ((Grew.refl w).alloc _)
      obtain ⟨j, A, m, c, st, rfl, hj, hh1, hh2, hA, hF⟩ := hh
      go_wp2_with fail
      go_ret2
      exact ⟨j, A, m, c, st, rfl, hj, hh1, hh2, hA, hF⟩
end
end Go.Proofs.Ytkoklmecijejkaa
