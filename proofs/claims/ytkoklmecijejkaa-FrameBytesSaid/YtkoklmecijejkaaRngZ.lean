/-
  The program's ring: the first ones let go, the first ones told.
-/
import Derived.Test.YtkoklmecijejkaaRngY
import Derived.LoopTactic
import Derived.Deep.DeepCutAuto
namespace Go.Proofs.Ytkoklmecijejkaa
open Go.RowKit
set_option linter.unusedVariables false

theorem wd_drop (ns : List Nat) (n i : Nat) : wd (ns.drop n) i = wd ns (n + i) := by simp [wd]
theorem addr_ne {g i j : Nat} (h : i ≠ j) : (⟨g, i, none⟩ : Addr) ≠ ⟨g, j, none⟩ := fun e => h (by injection e)
theorem progAt_drop {w : World} {g size first lost : Nat} {ns : List Nat} (h : ProgAt w g size first ns.length ns lost) (n : Nat) (hn : n ≤ ns.length) :
    ProgAt ((w.setCell ⟨g, 4097, none⟩ (.int .i64 ((first + n) % size : Nat))).setCell ⟨g, 4098, none⟩ (.int .i64 ((ns.length : Int) - n))) g size ((first + n) % size) (ns.drop n).length (ns.drop n) lost := by
  have ho : ∀ j (u v : Value), j ≠ 4097 → j ≠ 4098 → ((w.setCell ⟨g, 4097, none⟩ u).setCell ⟨g, 4098, none⟩ v).cell? ⟨g, j, none⟩ = w.cell? ⟨g, j, none⟩ := fun j u v h1 h2 => by
    rw [World.cell?_setCell_other _ _ _ _ (addr_ne (Ne.symm h2)), World.cell?_setCell_other _ _ _ _ (addr_ne (Ne.symm h1))]
  have hs := h.hs
  have hN := h.hn
  have hlt : (first + n) % size < size := Nat.mod_lt _ (by omega)
  refine ⟨by simpa [World.setCell] using h.lt, hs, hlt, by rw [List.length_drop]; omega, by rw [List.length_drop]; omega, fun i => by rw [wd_drop]; exact h.hb _, ?_, ?_, ?_, ?_, fun i hi => ?_, ?_⟩
  · rw [ho _ _ _ (by omega) (by omega)]; exact h.c1
  · rw [World.cell?_setCell_other _ _ _ _ (addr_ne (by omega))]; exact World.cell?_setCell_same _ _ _ h.c2
  · rw [World.cell?_setCell_same _ _ _ (by rw [World.cell?_setCell_other _ _ _ _ (addr_ne (by omega))]; exact h.c3), List.length_drop, Int.ofNat_sub hn]
  · rw [ho _ _ _ (by omega) (by omega)]; exact h.c4
  · rw [List.length_drop] at hi
    have hl2 : ((first + n) % size + i) % size < size := Nat.mod_lt _ (by omega)
    rw [ho _ _ _ (by omega) (by omega), Nat.mod_add_mod, Nat.add_assoc, wd_drop]
    exact h.cs (n + i) (by omega)
  · obtain ⟨C, t, a, b, c⟩ := h.wh
    obtain ⟨C', t', a', b', c'⟩ := whole_set a b c 4097 (.int .i64 ((first + n) % size : Nat)) rfl
    exact whole_set a' b' c' 4098 _ rfl

def DropOf (g size : Nat) (ns : List Nat) (lost m : Nat) (w : World) (e : Ending) (w' : World) : Prop :=
  ∃ first', e = .returned (.int .i64 (m : Nat)) ∧ ProgAt w' g size first' (ns.drop m).length (ns.drop m) lost ∧ Far (fun k => k = g) w w'

set_option maxRecDepth 100000 in
set_option maxHeartbeats 1000000 in
theorem ring_Drop (w : World) (g size first : Nat) (ns : List Nat) (lost : Nat) (n : Int) (h : ProgAt w g size first ns.length ns lost) (hn : -9223372036854775808 ≤ n ∧ n ≤ 9223372036854775807) :
    Calls Try.prog 22 #[.pointer (some ⟨g, 0, none⟩), .int .i64 n] w (DropOf g size ns lost (min n.toNat ns.length) w) := by
  have H := Lib.hid (ring_upTo w g size first ns.length ns lost n h hn)
  have hs := h.hs
  have hf := h.hf
  have hN := h.hn
  obtain ⟨m, hm⟩ : ∃ m, min n.toNat ns.length = m := ⟨_, rfl⟩
  have hml : m ≤ ns.length := by omega
  rw [hm] at H ⊢
  clear hm hn
  have HH := fun w' (k : Grew w w') => Lib.hid (h.grew k)
  have HP : ∀ w', Grew w w' → Hid (Calls Try.prog 23 #[.pointer (some ⟨g, 0, none⟩)] w' (PlacesOf first size w')) := fun w' k => Lib.hid (ring_places w' g size first ns.length ns lost (h.grew k))
  have HQ := fun (w' : World) (p q : Addr) hp hq => Lib.hid (ring_places1 w' first size m p q hp hq (by omega) (by omega) hs)
  have HF : ∀ w', Grew w w' → Hid (DropOf g size ns lost m w (.returned (.int .i64 (m : Nat))) ((w'.setCell ⟨g, 4097, none⟩ (.int .i64 ((first + m) % size : Nat))).setCell ⟨g, 4098, none⟩ (.int .i64 ((ns.length : Int) - m)))) := fun w' k =>
    ⟨(first + m) % size, rfl, progAt_drop (h.grew k) m hml, Far.setCell (F := fun k => k = g) (Far.setCell (F := fun k => k = g) (Far.of_grew k) (p := ⟨g, 4097, none⟩) rfl _) (p := ⟨g, 4098, none⟩) rfl _⟩
  rcases Nat.eq_zero_or_pos m with h0 | h0
  · subst h0
    clear HF HP HQ
    go_enter Try.func22, Try.ntmps22
    go_wp2_with fail
    refine H.out.mono ?_
    rintro e w1 ⟨rfl, g1⟩
    go_wp2_with fail
    go_ret
    exact ⟨first, rfl, by rw [List.drop_zero]; exact h.grew g1, Far.of_grew g1⟩
  · have z0 : ¬ (m : Int) = 0 := by omega
    generalize (first + m) % size = f' at *
    clear h
    go_enter Try.func22, Try.ntmps22
    go_wp2_with fail
    refine H.out.mono ?_
    rintro e w1 ⟨rfl, g1⟩
    go_wp2_with fail
    refine (HP _ g1).out.mono ?_
    rintro e w2 ⟨a, b, rfl, ha, hb, q1, q2, g2⟩
    go_wp2_with fail
    refine (HQ _ _ _ q1 q2).out.mono ?_
    rintro e w3 ⟨rfl, g3⟩
    have G := (g1.trans g2).trans g3
    have PP := HH _ G
    have c2 := PP.out.c2
    have c3 := PP.out.c3
    have f2 := PP.out.frozen 4097
    have f3 := PP.out.frozen 4098
    have HF1 := HF _ G
    clear HH HP HQ HF PP H ha hb q1 q2 g1 g2 g3
    generalize ns.length = N at *
    go_wp2_with fail
    go_ret
    exact HF1.out

/-- The first k bytes are told, the others are still 0. -/
def toldOf (ns : List Nat) (m k : Nat) : List Nat := ns.take k ++ List.replicate (m - k) 0
theorem toldOf_zero (ns : List Nat) (m : Nat) : toldOf ns m 0 = List.replicate m 0 := by simp [toldOf]
theorem toldOf_length (ns : List Nat) (m k : Nat) (hk : k ≤ m) (hm : m ≤ ns.length) : (toldOf ns m k).length = m := by simp [toldOf]; omega
theorem toldOf_set (ns : List Nat) (m k : Nat) (hk : k < m) (hm : m ≤ ns.length) : (toldOf ns m k).set k (wd ns k) = toldOf ns m (k + 1) := by
  have hl : (ns.take k).length = k := by rw [List.length_take]; omega
  have ht : ns.take (k + 1) = ns.take k ++ [wd ns k] := by rw [List.take_add_one, wd_lt (by omega), List.getElem?_eq_getElem (by omega)]; rfl
  unfold toldOf
  rw [List.set_append_right _ _ (by omega), hl, Nat.sub_self, show m - k = (m - (k + 1)) + 1 by omega, List.replicate_succ, List.set_cons_zero, ht, List.append_assoc]
  rfl
theorem toldOf_full (ns : List Nat) (m : Nat) : toldOf ns m m = ns.take m := by simp [toldOf]
theorem own_zeros {w : World} {B : Nat} {v : Value} {m : Nat} (h : w.ownsRow B 5 1 v m (madeCells (Value.int .u8 0).cells (m * 1)).toList) : Own B 5 .u8 w v (List.replicate m 0) := by
  unfold Own
  rw [List.length_replicate, show cellsOf .u8 (List.replicate m 0) = (madeCells (Value.int .u8 0).cells (m * 1)).toList from ?_]
  · exact h
  · apply List.ext_getElem?
    intro i
    simp [madeCells, cellsOf, Value.cells, Nat.mod_one, List.getElem?_replicate]
    split <;> simp_all
theorem own_cellP {w : World} {B g m c i : Nat} {ns : List Nat} (h : Own B 5 .u8 w (.slice (some ⟨g, 0, none⟩) m c) ns) (hi : i < ns.length) : (∃ x : Nat, w.cell? ⟨g, i, none⟩ = some (.int .u8 x)) ∧ w.frozen? ⟨g, i, none⟩ = false := by
  obtain ⟨h1, h2⟩ := h
  rcases h2 with ⟨e, _⟩ | ⟨g', cap, cur, e, hb, hh, hn, hm, hs, hc⟩
  · cases e
  · cases e
    refine ⟨⟨wd ns i, ?_⟩, by simp [World.frozen?, hh]⟩
    rw [cell_of_row w g i cur _ (0, 0) hh]
    have : (cur.toList.take (ns.length * 1))[i]? = cur[i]? := by rw [List.getElem?_take, if_pos (by omega), Array.getElem?_toList]
    rw [← this, hc]
    simp [cellsOf, hi, wd_lt hi]

set_option maxRecDepth 100000 in
set_option maxHeartbeats 1000000 in
theorem ring_Peek (w : World) (g size first : Nat) (ns : List Nat) (lost : Nat) (n : Int) (h : ProgAt w g size first ns.length ns lost) (hn : -9223372036854775808 ≤ n ∧ n ≤ 9223372036854775807) :
    Calls Try.prog 14 #[.pointer (some ⟨g, 0, none⟩), .int .i64 n] w (Peeked (ns.take n.toNat) w) := by
  have H := Lib.hid (ring_upTo w g size first ns.length ns lost n h hn)
  have hs := h.hs
  have hf := h.hf
  have hN := h.hn
  obtain ⟨m, hm⟩ : ∃ m, min n.toNat ns.length = m := ⟨_, rfl⟩
  have ht : Hid (ns.take n.toNat = ns.take m) := by
    show _ = _
    rw [← hm]
    by_cases h : n.toNat ≤ ns.length
    · rw [Nat.min_eq_left h]
    · rw [Nat.min_eq_right (by omega), List.take_of_length_le (by omega), List.take_length]
  have hml : m ≤ ns.length := by omega
  rw [hm] at H
  rw [ht.out]
  clear hm ht hn
  have HP : ∀ w', Grew w w' → Hid (Calls Try.prog 23 #[.pointer (some ⟨g, 0, none⟩)] w' (PlacesOf first size w')) := fun w' k => Lib.hid (ring_places w' g size first ns.length ns lost (h.grew k))
  have HQ := fun (w' : World) (p q : Addr) (i : Nat) (hi : i < m) hp hq => Lib.hid (ring_places1 w' first size i p q hp hq (by omega) (by omega) hs)
  rcases Nat.eq_zero_or_pos m with h0 | h0
  · subst h0
    clear HP HQ h
    go_enter Try.func14, Try.ntmps14
    go_wp2_with fail
    refine H.out.mono ?_
    rintro e w1 ⟨rfl, g1⟩
    go_wp2_with fail
    go_ret
    exact ⟨_, rfl, Own.nil _ _ _ _, g1⟩
  · have z0 : ¬ (m : Int) = 0 := by omega
    have HC : ∀ w', Grew w w' → ∀ i, i < m → Hid (w'.cell? ⟨g, (first + i) % size, none⟩ = some (.int .u8 (wd ns i : Nat))) := fun w' k i hi => Lib.hid ((h.grew k).cs i (by omega))
    have HM : ∀ i, Hid ((first + i) % size < 4096) := fun i => Lib.hid (Nat.lt_of_lt_of_le (Nat.mod_lt _ (by omega)) hs.2)
    have hmb : m ≤ 4096 := by omega
    obtain ⟨ei, hei, hz0, hz1, hz2⟩ := info_parts infoU8
    clear h hf hN hs
    have HML := Lib.hid hml
    clear hml
    go_enter Try.func14, Try.ntmps14
    go_wp2_with fail
    refine H.out.mono ?_
    rintro e w1 ⟨rfl, g1⟩
    go_wp2_with fail
    refine (HP _ g1).out.mono ?_
    rintro e w2 ⟨a, b, rfl, ha, hb, q1, q2, g2⟩
    have G2 := g1.trans g2
    go_wp2_with (refine wpList_make_full _ rfl _ _ 23 rfl w.heap.size 5 ei (.int .u8 0) 1 Try.underlying23 hei hz0 hz1 .i64 .i64 m m m rfl rfl rfl rfl (by rw [hz2]; omega) (by unfold maxLen; omega) G2.size ?_; intro w3 hown hgrow)
    have G3 := G2.trans (grew_made hgrow)
    have hA := Lib.hid (((grew_made hgrow).cell (World.block_lt_of_cell? _ _ q1)).trans q1)
    have hB := Lib.hid (((grew_made hgrow).cell (World.block_lt_of_cell? _ _ q2)).trans q2)
    have hO := Lib.hid (own_zeros hown)
    rw [← toldOf_zero ns m] at hO
    have hX : w.heap.size ≤ w2.heap.size := G2.size
    have hne : a ≠ w2.heap.size ∧ b ≠ w2.heap.size := by have := World.block_lt_of_cell? _ _ q1; have := World.block_lt_of_cell? _ _ q2; exact ⟨by simp_all; omega, by simp_all; omega⟩
    generalize w2.heap.size = X at *
    clear hown hgrow H HP ha hb q1 q2 g1 g2 G2
    go_wp2_with fail
    go_loopw [19] (fun i wr => ∃ k : Nat, k ≤ m ∧ i = .int .i64 (k : Nat) ∧ Hid (Own w.heap.size 5 .u8 wr (.slice (some ⟨X, 0, none⟩) m m) (toldOf ns m k)) ∧ Hid (wr.cell? ⟨a, 0, none⟩ = some (.int .i64 first)) ∧ Hid (wr.cell? ⟨b, 0, none⟩ = some (.int .i64 size)) ∧ Grew w wr) (fun i _ => m - (intOf i).toNat)
    case atStart => exact ⟨0, by omega, rfl, hO, hA, hB, G3⟩
    case round =>
      clear hO hA hB G3
      obtain ⟨k, hk, rfl, hO, hA, hB, hg⟩ := hrel
      by_cases hlt : k < m
      · have hlen := toldOf_length ns m k hk HML.out
        obtain ⟨⟨x0, t0⟩, f0⟩ := own_cellP hO.out (i := k) (by rw [hlen]; exact hlt)
        have hXl : X < wr.heap.size := World.block_lt_of_cell? wr ⟨X, k, none⟩ t0
        have hal : a < wr.heap.size := World.block_lt_of_cell? wr ⟨a, 0, none⟩ hA.out
        have hbl : b < wr.heap.size := World.block_lt_of_cell? wr ⟨b, 0, none⟩ hB.out
        have hgl : g ≠ X := fun e => by have h1 := (HC w (Grew.refl w) k hlt).out; have h2 : g < w.heap.size := World.block_lt_of_cell? w ⟨g, _, none⟩ h1; omega
        have KS : ∀ w', Grew wr w' → Hid (w'.cell? ⟨g, (first + k) % size, none⟩ = some (.int .u8 (wd ns k : Nat))) := fun w' q => HC w' (hg.trans q) k hlt
        have KT : ∀ w', Grew wr w' → Hid ((w'.setCell ⟨X, k, none⟩ (.int .u8 (wd ns k : Nat))).cell? ⟨g, (first + k) % size, none⟩ = some (.int .u8 (wd ns k : Nat))) := fun w' q => by
          show _ = _
          rw [World.cell?_setCell_other _ _ _ _ (fun e => hgl (by injection e with e1; exact e1.symm))]
          exact (KS w' q).out
        have KX : ∀ w', Grew wr w' → Hid (w'.cell? ⟨X, k, none⟩ = some (.int .u8 x0) ∧ w'.frozen? ⟨X, k, none⟩ = false) := fun w' q =>
          Lib.hid ⟨(q.cell (p := ⟨X, k, none⟩) hXl).trans t0, (q.frozen (p := ⟨X, k, none⟩) hXl).trans f0⟩
        have HSET : ∀ w', Grew wr w' → Hid (Own w.heap.size 5 .u8 (w'.setCell ⟨X, k, none⟩ (.int .u8 (wd ns k : Nat))) (.slice (some ⟨X, 0, none⟩) m m) (toldOf ns m (k + 1)) ∧ (w'.setCell ⟨X, k, none⟩ (.int .u8 (wd ns k : Nat))).cell? ⟨a, 0, none⟩ = some (.int .i64 first) ∧ (w'.setCell ⟨X, k, none⟩ (.int .u8 (wd ns k : Nat))).cell? ⟨b, 0, none⟩ = some (.int .i64 size) ∧ Grew w (w'.setCell ⟨X, k, none⟩ (.int .u8 (wd ns k : Nat)))) := fun w' q => by
          refine ⟨?_, ?_, ?_, (hg.trans q).setCell hX _⟩
          · rw [← toldOf_set ns m k hlt HML.out]
            exact (hO.out.grew q).set k _ (by rw [hlen]; exact hlt)
          · rw [World.cell?_setCell_other _ _ _ _ (fun e => hne.1 (by injection e with e1; exact e1.symm))]
            exact (q.cell (p := ⟨a, 0, none⟩) hal).trans hA.out
          · rw [World.cell?_setCell_other _ _ _ _ (fun e => hne.2 (by injection e with e1; exact e1.symm))]
            exact (q.cell (p := ⟨b, 0, none⟩) hbl).trans hB.out
        have hMM := (HM k).out
        have HQ1 := fun w' (q : Grew wr w') => HQ w' ⟨a, 0, none⟩ ⟨b, 0, none⟩ k hlt ((q.cell (p := ⟨a, 0, none⟩) hal).trans hA.out) ((q.cell (p := ⟨b, 0, none⟩) hbl).trans hB.out)
        clear HQ HC HM hO t0 f0 hlen hXl hal hbl hA hB hg hgl
        generalize (first + k) % size = mm at *
        generalize wd ns k = x at *
        have m0 : (0 : Int) ≤ mm := by omega
        have m1 : (mm : Int) < 4096 := by omega
        have k0 : (0 : Int) ≤ k := by omega
        have k1 : (k : Int) < m := by omega
        have G : Grew wr wr.drew := (Grew.refl wr).drew
        go_wp2_with fail
        go_region_held3 (fun w' => w'.cell? ⟨g, mm, none⟩ = some (.int .u8 x)) (first | exact (KS _ G).out | exact (KT _ G).out) ((go_at_call 36; refine (HQ1 _ G).out.mono ?_; rintro e w4 ⟨rfl, g4⟩; replace G := G.trans g4; clear g4; obtain ⟨t1, f1⟩ := (KX _ G).out))
        go_wp2_with fail
        obtain ⟨s1, s2, s3, s4⟩ := (HSET _ G).out
        go_roundw
        case rel => exact ⟨k + 1, by omega, by simp, s1, s2, s3, s4⟩
        case measure => simp [intOf]; omega
      · obtain rfl : k = m := by omega
        go_wp2_with fail
        go_ret
        exact ⟨_, rfl, by rw [← toldOf_full]; exact hO.out, hg⟩
end Go.Proofs.Ytkoklmecijejkaa
