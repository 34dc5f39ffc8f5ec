/-
  The walk of the law on the last bytes, out of the ring's contracts.
-/
import Derived.Test.YtabbfgidgcnddaaRngL
import Derived.Deep.RegionHeldLaw
namespace Go.Proofs.Ytabbfgidgcnddaa
open Go.RowKit
set_option linter.unusedVariables false

/-- A slice of rows of bytes. -/
def RowsAt (w : World) (v : Value) (bss : List (List Nat)) : Prop :=
  ∃ A c, v = .slice A bss.length c ∧ bss.length ≤ c ∧ (0 < bss.length → ∃ b o, A = some ⟨b, o, none⟩ ∧ b < w.heap.size ∧ ∀ i, i < bss.length → ∃ A' c', w.cell? ⟨b, o + i, none⟩ = some (.slice A' (bss.getD i []).length c') ∧ Row .u8 w (.slice A' (bss.getD i []).length c') (bss.getD i []))
theorem RowsAt.grew {w w' : World} {v : Value} {bss : List (List Nat)} (h : RowsAt w v bss) (g : Grew w w') : RowsAt w' v bss := by
  obtain ⟨A, c, rfl, hc, hr⟩ := h
  refine ⟨A, c, rfl, hc, fun hn => ?_⟩
  obtain ⟨b, o, rfl, hb, hcell⟩ := hr hn
  refine ⟨b, o, rfl, Nat.lt_of_lt_of_le hb g.size, fun i hi => ?_⟩
  obtain ⟨A', c', h1, h2⟩ := hcell i hi
  exact ⟨A', c', (g.cell (p := ⟨b, o + i, none⟩) hb).trans h1, h2.grew g⟩

/-- The first k rows, one behind the other. -/
def cat (bss : List (List Nat)) : Nat → List Nat
  | 0 => []
  | k + 1 => cat bss k ++ bss.getD k []
theorem cat_bytes {bss : List (List Nat)} (hB : ∀ i, Bytes (bss.getD i [])) : ∀ k, Bytes (cat bss k)
  | 0 => Bytes.of_mem (by simp [cat])
  | k + 1 => fun i => by
    by_cases h : i < (cat bss k).length
    · rw [cat, wd_append_left h]; exact cat_bytes hB k i
    · obtain ⟨j, rfl⟩ : ∃ j, i = (cat bss k).length + j := ⟨i - (cat bss k).length, by omega⟩
      rw [cat, wd_append_right]; exact hB k j
theorem cat_mono (bss : List (List Nat)) : ∀ d k, (cat bss k).length ≤ (cat bss (k + d)).length
  | 0, _ => Nat.le_refl _
  | d + 1, k => by
    have := cat_mono bss d k
    rw [show k + (d + 1) = k + d + 1 by omega, cat, List.length_append]; omega
/-- The last bytes for which there is room. -/
def lastOf (size : Nat) (c : List Nat) : List Nat := c.drop (c.length - size)
theorem lastOf_length (size : Nat) (c : List Nat) : (lastOf size c).length = min c.length size := by unfold lastOf; rw [List.length_drop]; omega
theorem last_put (size : Nat) (c xs : List Nat) : ringPut size (lastOf size c) xs = lastOf size (c ++ xs) := by
  unfold ringPut ringOver lastOf
  rw [← List.drop_append_of_le_length (by omega), List.drop_drop, List.length_drop, List.length_append]
  congr 1; omega
theorem last_over (size : Nat) (c xs : List Nat) : c.length - size + ringOver size (lastOf size c) xs = (c ++ xs).length - size := by
  unfold ringOver; rw [lastOf_length, List.length_append]; omega

set_option maxRecDepth 100000 in
set_option maxHeartbeats 4000000 in
theorem walk_RingLast {R : World → Value → (Nat → Prop) → Nat → List Nat → Nat → Prop} {T : World → Prop} (P : RingCalls R T) (size : Int) (v : Value) (bss : List (List Nat)) (w : World) (ht : T w)
    (hs : -9223372036854775808 ≤ size ∧ size ≤ 9223372036854775807) (hR : RowsAt w v bss) (hB : ∀ i, Bytes (bss.getD i [])) (hn : bss.length ≤ 140737488355328) (hl : ∀ i, (bss.getD i []).length ≤ 140737488355328) :
    Calls Try.prog 4 #[.int .i64 size, v] w fun e w' => e = .returned (.bool true) ∧ Grew w w' := by
  have K := Lib.hid P.keep
  have HK := fun w ht => Lib.hid (ring_known P w ht)
  have HRW := Lib.hid hR
  obtain ⟨A, c, rfl, hc, hr⟩ := hR
  clear hr
  go_enter Try.func4, Try.ntmps4
  go_wp2_with fail
  go_loopw [5, 19] (fun a i wr => ∃ k : Nat, k ≤ bss.length ∧ i = .int .i64 (k : Nat) ∧ Hid (Own w.heap.size 5 .u8 wr a (cat bss k)) ∧ (∃ A' c', a = .slice A' (cat bss k).length c') ∧ (cat bss k).length ≤ 20000 ∧ Grew w wr) (fun _ i _ => bss.length - (intOf i).toNat)
  case atStart => exact ⟨0, Nat.zero_le _, rfl, Own.nil _ _ _ _, ⟨none, 0, rfl⟩, by simp [cat], Grew.refl _⟩
  case round =>
    obtain ⟨k, hk, rfl, hO, ⟨A1, c1, rfl⟩, hck, G⟩ := hrel
    by_cases hlt : k < bss.length
    · obtain ⟨A2, c2, e, _, hrow⟩ := HRW.out.grew G
      cases e
      obtain ⟨b, o, rfl, hb, hcell⟩ := hrow (by omega)
      obtain ⟨A3, c3, x0, x1⟩ := hcell k hlt
      have hlk := hl k
      have hcat0 : (cat bss (k + 1)) = cat bss k ++ bss.getD k [] := rfl
      obtain ⟨xs, HXS⟩ : ∃ xs, Hid (bss.getD k [] = xs) := ⟨_, Lib.hid rfl⟩
      rw [HXS.out] at x0 x1 hlk hcat0
      have HX := Lib.hid x1
      have hcat := Lib.hid hcat0
      have HLN : Hid ((cat bss (k + 1)).length = (cat bss k).length + xs.length) := by show _ = _; rw [hcat.out, List.length_append]
      clear hcell hrow x1 hcat0
      by_cases hbig : 20000 < (cat bss k).length + xs.length
      · go_wp2_with fail
        refine (HK _ (K.out _ _ ht G)).out.mono ?_
        rintro e w1 ⟨rfl, g⟩
        go_wp2_with fail
        go_ret
        exact ⟨rfl, G.trans g⟩
      · go_wp2_with (refine wpList_joinN _ rfl _ _ 23 rfl w.heap.size 5 .u8 1 Try.underlying23 infoU8 _ (cat bss k) rfl hO.out _ xs rfl HX.out (by omega) (by decide) G.size ?_; intro v' w1 hown hgrow hnil; rw [← hcat.out] at hown; have G1 := Grew.push G hO.out hgrow)
        go_roundw
        case rel => exact ⟨k + 1, by omega, by go_num, hown, hown.row.form.imp fun _ ⟨c, h, _⟩ => ⟨c, h⟩, by rw [HLN.out]; omega, G1⟩
        case measure => simp [intOf]; omega
    · obtain rfl : k = bss.length := by omega
      generalize wr = W1 at *
      obtain ⟨C, HC⟩ : ∃ C, Hid (cat bss bss.length = C) := ⟨_, Lib.hid rfl⟩
      rw [HC.out] at hO hck
      have HCM : ∀ k, Hid (k < bss.length → (cat bss k).length + (bss.getD k []).length ≤ 20000) := fun k h => by
        have := cat_mono bss (bss.length - (k + 1)) (k + 1)
        rw [show k + 1 + (bss.length - (k + 1)) = bss.length by omega, HC.out, cat, List.length_append] at this
        omega
      simp only [HC.out]
      by_cases hbad : size < 64 ∨ 4096 < size
      · have H0 := Lib.hid (P.bad size W1 hs hbad (K.out _ _ ht G))
        have hc2 : decide ((40 : Int) < bss.length) = true ∨ decide ((40 : Int) < bss.length) = false := by cases decide ((40 : Int) < bss.length) <;> simp
        go_wp2_with fail
        refine H0.out.mono ?_
        rintro e w1 ⟨rfl, g⟩
        rcases hc2 with hc2 | hc2
        all_goals
          go_wp2_with fail
          refine (HK _ (K.out _ _ ht (G.trans g))).out.mono ?_
          rintro e w2 ⟨rfl, g2⟩
          go_wp2_with fail
          go_ret
          exact ⟨rfl, (G.trans g).trans g2⟩
      · obtain ⟨sz, rfl⟩ : ∃ sz : Nat, size = sz := ⟨size.toNat, by omega⟩
        have hz1 : 64 ≤ sz := by omega
        have hz2 : sz ≤ 4096 := by omega
        have H0 := Lib.hid (P.new sz W1 hz1 hz2 (K.out _ _ ht G))
        go_wp2_with fail
        refine H0.out.mono ?_
        rintro e w1 ⟨g, F, rfl, hR, hF, g1⟩
        have HR := Lib.hid hR
        have HF := Lib.hid hF
        clear hR hF H0 hbad
        by_cases h40 : 40 < bss.length
        · have hc2 : decide ((40 : Int) < bss.length) = true := by simp; omega
          go_wp2_with fail
          refine (HK _ (K.out _ _ ht (G.trans g1))).out.mono ?_
          rintro e w2 ⟨rfl, g2⟩
          go_wp2_with fail
          go_ret
          exact ⟨rfl, (G.trans g1).trans g2⟩
        · have hc2 : decide ((40 : Int) < bss.length) = false := by simp; omega
          go_wp2_with fail
          go_loopw [10, 49] (fun lo i wr => ∃ (k l : Nat) (F : Nat → Prop), k ≤ bss.length ∧ i = .int .i64 (k : Nat) ∧ lo = .int .i64 (l : Nat) ∧ Hid (R wr (.pointer (some ⟨g, 0, none⟩)) F sz (lastOf sz (cat bss k)) l) ∧ Hid (l = (cat bss k).length - sz) ∧ l ≤ 20000 ∧ Hid (∀ b, F b → W1.heap.size ≤ b) ∧ Grew W1 wr) (fun _ i _ => bss.length - (intOf i).toNat)
          case atStart => exact ⟨0, 0, F, Nat.zero_le _, rfl, rfl, (by show R w1 _ F sz (lastOf sz []) 0; rw [show lastOf sz [] = [] by simp [lastOf]]; exact HR.out), (by show 0 = ([] : List Nat).length - sz; simp), by omega, HF.out, g1⟩
          case round =>
            clear HR HF g1
            obtain ⟨k, l, F1, hk, rfl, rfl, HR, HLQ, hl20, HF, g1⟩ := hrel
            by_cases hlt : k < bss.length
            · obtain ⟨A2, c2, e, _, hrow⟩ := (HRW.out.grew G).grew g1
              cases e
              obtain ⟨b, o, rfl, hb, hcell⟩ := hrow (by omega)
              obtain ⟨A3, c3, x0, x1⟩ := hcell k hlt
              obtain ⟨A2', c2', e, _, hrow'⟩ := HRW.out.grew G
              cases e
              obtain ⟨b', o', e', hb', hcell'⟩ := hrow' (by omega)
              cases e'
              obtain ⟨A3', c3', x0', x1'⟩ := hcell' k hlt
              have hx00 := (g1.cell (p := ⟨b, o + k, none⟩) hb').trans x0'
              rw [x0] at hx00
              simp only [Option.some.injEq, Value.slice.injEq] at hx00
              obtain ⟨rfl, _, rfl⟩ := hx00
              have hcm := (HCM k).out hlt
              have hBk := hB k
              have hcat0 : (cat bss (k + 1)) = cat bss k ++ bss.getD k [] := rfl
              obtain ⟨xs, HXS⟩ : ∃ xs, Hid (bss.getD k [] = xs) := ⟨_, Lib.hid rfl⟩
              rw [HXS.out] at x0 x1 x1' hcm hcat0 hBk
              have H1 := Lib.hid (P.put wr _ F1 sz _ l _ xs HR.out x1 hBk (by omega) (by omega) (fun hp q hq hFq => by have := x1'.lt hp q hq; have := HF.out q hFq; omega) (K.out _ _ ht (G.trans g1)))
              have HOV : Hid (l + ringOver sz (lastOf sz (cat bss k)) xs = (cat bss (k + 1)).length - sz) := by show _ = _; rw [HLQ.out, last_over, hcat0]
              have HPT : Hid (ringPut sz (lastOf sz (cat bss k)) xs = lastOf sz (cat bss (k + 1))) := by show _ = _; rw [last_put, hcat0]
              have HL1 : Hid ((cat bss (k + 1)).length ≤ 20000) := by show _ ≤ _; rw [hcat0, List.length_append]; exact hcm
              have hov : l + ringOver sz (lastOf sz (cat bss k)) xs ≤ 20000 := by have := HOV.out; have := HL1.out; omega
              rw [HPT.out] at H1
              generalize ringOver sz (lastOf sz (cat bss k)) xs = ov at *
              clear hrow hcell hrow' hcell' x0' x1' x1 hcat0 hBk
              go_wp2_with fail
              refine H1.out.mono ?_
              rintro e w3 ⟨F3, rfl, hR3, hF3, far⟩
              have g3 := far.grew g1 (fun q hq => HF.out q hq)
              have HF3 : Hid (∀ b, F3 b → W1.heap.size ≤ b) := fun q hq => by
                rcases hF3 q hq with h | h
                · exact HF.out q h
                · exact Nat.le_trans g1.size h
              have HR3 := Lib.hid hR3
              clear hR3 hF3 far H1
              go_wp2_with fail
              go_roundw
              case rel => exact ⟨k + 1, l + ov, F3, by omega, by go_num, by go_num, HR3, HOV, hov, HF3, g3⟩
              case measure => simp [intOf]; omega
            · obtain rfl : k = bss.length := by omega
              have hlq := HLQ.out
              rw [HC.out] at hlq HR
              have hrow1 := hO.out.grew g1
              have HALL := Lib.hid hrow1.row
              have G1 := G.trans g1
              have HALL2 := HALL
              have hl2 : l ≤ C.length := by omega
              have hc1 : C.length ≤ c1 := by obtain ⟨_, c', e, h, _⟩ := HALL.out; simp only [Value.slice.injEq] at e; omega
              have HLEN : Hid ((lastOf sz C).take sz = lastOf sz C) := List.take_of_length_le (by rw [lastOf_length]; omega)
              clear HCM hrow1 hO HF
              have M0 := Lib.hid (P.nat wr 0 (by omega) (K.out _ _ ht G1))
              have M1 := fun w' (k : Grew wr w') => Lib.hid (P.nput w' _ C (HALL.out.grew k) (K.out _ _ ht (G1.trans k)))
              have M2 := fun w' (k : Grew wr w') => Lib.hid (P.nlen w' (K.out _ _ ht (G1.trans k)))
              have M3 := fun w' (k : Grew wr w') => Lib.hid (P.nsize w' (K.out _ _ ht (G1.trans k)))
              have M4 := fun w' (k : Grew wr w') => Lib.hid (P.ndrop w' 1 (by omega) (K.out _ _ ht (G1.trans k)))
              have M5 := fun w' (k : Grew wr w') => Lib.hid (P.npeek w' 1 (by omega) (K.out _ _ ht (G1.trans k)))
              have M6 := fun w' (k : Grew wr w') => Lib.hid (P.nlost w' (K.out _ _ ht (G1.trans k)))
              have M7 := fun w' (k : Grew wr w') => Lib.hid (P.ncopy w' (K.out _ _ ht (G1.trans k)))
              have M8 := fun w' (k : Grew wr w') => Lib.hid (P.lost w' _ _ _ _ _ (P.grew HR.out k) (K.out _ _ ht (G1.trans k)))
              have M9 : ∀ w', Grew wr w' → Hid (Calls Try.prog 13 #[.pointer (some ⟨g, 0, none⟩), .int .i64 (sz : Nat)] w' (Peeked (lastOf sz C) w')) := fun w' k => by
                have := P.peek w' _ _ _ _ _ (sz : Nat) (P.grew HR.out k) (by omega) (K.out _ _ ht (G1.trans k))
                rw [Int.toNat_natCast, HLEN.out] at this
                exact this
              have D := Grew.refl wr
              clear HLEN HALL HLQ HR
              rcases (show (C.length ≤ sz ∧ l = 0) ∨ (sz < C.length ∧ C.length = sz + l ∧ 0 < l) by omega) with hov | hov
              · obtain ⟨hov, rfl⟩ := hov
                clear hlq
                have hlast : lastOf sz C = C := by unfold lastOf; rw [show C.length - sz = 0 by omega, List.drop_zero]
                rw [hlast] at M9
                have EQ := fun w' (k : Grew wr w') => Lib.hid (Row.string w' (HALL2.out.grew k) 23 5 Try.underlying23 Try.underlying5 9 Try.underlying9)
                clear hlast
                go_wp2_with fail
                refine M0.out.mono ?_
                rintro e w3 ⟨rfl, g3⟩
                replace D := D.trans g3
                clear g3
                go_wp2_with (first | (go_at_call 7; refine (M1 _ D).out.mono ?_; rintro e w' ⟨rfl, hg⟩; replace D := D.trans hg; clear hg) | (go_at_call 14; refine (M2 _ D).out.mono ?_; rintro e w' ⟨rfl, hg⟩; replace D := D.trans hg; clear hg) | (go_at_call 16; refine (M3 _ D).out.mono ?_; rintro e w' ⟨rfl, hg⟩; replace D := D.trans hg; clear hg) | (go_at_call 9; refine (M4 _ D).out.mono ?_; rintro e w' ⟨rfl, hg⟩; replace D := D.trans hg; clear hg) | (go_at_call 13; refine (M5 _ D).out.mono ?_; rintro e w' ⟨v5, rfl, hv5, hg⟩; replace D := D.trans hg; obtain ⟨A5, c5, rfl, _⟩ := hv5.row.form; clear hg hv5) | (go_at_call 17; refine (M6 _ D).out.mono ?_; rintro e w' ⟨rfl, hg⟩; replace D := D.trans hg; clear hg) | (go_at_call 11; refine (M7 _ D).out.mono ?_; rintro e w' ⟨rfl, hg⟩; replace D := D.trans hg; clear hg))
                replace D := D.drew
                go_region_held_law (fun w' => (convert 23 9 (.slice A1 C.length c1)).run Try.prog w' = .ok (.string (strOf C)) w') (exact (EQ _ D).out) (first | (go_at_call 17; refine (M8 _ D).out.mono ?_; rintro e w' ⟨rfl, hg⟩; replace D := D.trans hg; clear hg) | (go_at_call 13; refine (M9 _ D).out.mono ?_; rintro e w' ⟨v6, rfl, hv6, hg⟩; replace D := D.trans hg; have q2 := Row.string w' hv6.row 23 5 Try.underlying23 Try.underlying5 9 Try.underlying9; clear hg hv6) | (go_at_call 5; refine (HK _ (K.out _ _ ht (G1.trans D))).out.mono ?_; rintro e w' ⟨rfl, hg⟩; replace D := D.trans hg; clear hg))
                all_goals go_wp2_with fail
                all_goals go_ret
                all_goals exact ⟨rfl, G1.trans D⟩
              · obtain ⟨hov, hCl, hl0⟩ := hov
                have e13 : (C.length : Int) - (sz : Int) = (l : Int) := by omega
                have hlast : C.drop l = lastOf sz C := by unfold lastOf; rw [hlq]
                have hne : c1 ≠ l := by omega
                have hcl : C.length - l = sz := by omega
                have HALL3 := HALL2.out.cutO l hl2 hne
                rw [hlast] at HALL3
                have EQ := fun w' (k : Grew wr w') => Lib.hid (Row.string w' (HALL3.grew k) 23 5 Try.underlying23 Try.underlying5 9 Try.underlying9)
                have hlq0 : 0 ≤ (l : Int) := by omega
                have hlq1 : (l : Int) ≤ C.length := by omega
                clear hlast hlq hCl hcl
                go_wp2_with fail
                refine M0.out.mono ?_
                rintro e w3 ⟨rfl, g3⟩
                replace D := D.trans g3
                clear g3
                go_wp2_with (first | (go_at_call 7; refine (M1 _ D).out.mono ?_; rintro e w' ⟨rfl, hg⟩; replace D := D.trans hg; clear hg) | (go_at_call 14; refine (M2 _ D).out.mono ?_; rintro e w' ⟨rfl, hg⟩; replace D := D.trans hg; clear hg) | (go_at_call 16; refine (M3 _ D).out.mono ?_; rintro e w' ⟨rfl, hg⟩; replace D := D.trans hg; clear hg) | (go_at_call 9; refine (M4 _ D).out.mono ?_; rintro e w' ⟨rfl, hg⟩; replace D := D.trans hg; clear hg) | (go_at_call 13; refine (M5 _ D).out.mono ?_; rintro e w' ⟨v5, rfl, hv5, hg⟩; replace D := D.trans hg; obtain ⟨A5, c5, rfl, _⟩ := hv5.row.form; clear hg hv5) | (go_at_call 17; refine (M6 _ D).out.mono ?_; rintro e w' ⟨rfl, hg⟩; replace D := D.trans hg; clear hg) | (go_at_call 11; refine (M7 _ D).out.mono ?_; rintro e w' ⟨rfl, hg⟩; replace D := D.trans hg; clear hg))
                replace D := D.drew
                go_region_held_law (fun w' => (convert 23 9 (.slice (A1.map fun x => x.add l) (C.length - l) (c1 - l))).run Try.prog w' = .ok (.string (strOf (lastOf sz C))) w') (exact (EQ _ D).out) (first | (go_at_call 17; refine (M8 _ D).out.mono ?_; rintro e w' ⟨rfl, hg⟩; replace D := D.trans hg; clear hg) | (go_at_call 13; refine (M9 _ D).out.mono ?_; rintro e w' ⟨v6, rfl, hv6, hg⟩; replace D := D.trans hg; have q2 := Row.string w' hv6.row 23 5 Try.underlying23 Try.underlying5 9 Try.underlying9; clear hg hv6) | (go_at_call 5; refine (HK _ (K.out _ _ ht (G1.trans D))).out.mono ?_; rintro e w' ⟨rfl, hg⟩; replace D := D.trans hg; clear hg))
                all_goals go_wp2_with fail
                all_goals go_ret
                all_goals exact ⟨rfl, G1.trans D⟩
end Go.Proofs.Ytabbfgidgcnddaa
