/-
  The laws of edges: the last eight of edges that do not fall.
-/
import Derived.Test.YtinkmpndlikgfaaEdgL
import Derived.Test.YtinkmpndlikgfaaRowI
namespace Go.Proofs.Ytinkmpndlikgfaa
open Go.RowKit Go.ChangeShapes Go.WideShapes
set_option linter.unusedVariables false

/-- The sum of the first so many. -/
def sumZ (ds : List Int) : Nat → Int
  | 0 => 0
  | k + 1 => sumZ ds k + zi ds k
/-- The sums of the first one, of the first two, .. -/
def risesZ (ds : List Int) (k : Nat) : List Int := (List.range k).map fun i => sumZ ds (i + 1)
def last8 (A : List Int) : List Int := A.drop (A.length - 8)
theorem risesZ_len (ds : List Int) (k : Nat) : (risesZ ds k).length = k := by simp [risesZ]
theorem risesZ_next (ds : List Int) (k : Nat) : risesZ ds k ++ [sumZ ds (k + 1)] = risesZ ds (k + 1) := by
  unfold risesZ
  rw [List.range_succ, List.map_append]
  rfl
theorem risesZ_zi (ds : List Int) (k i : Nat) (h : i < k) : zi (risesZ ds k) i = sumZ ds (i + 1) := by
  rw [zi_lt (by rw [risesZ_len]; exact h)]
  simp [risesZ]
theorem last8_push (A : List Int) (c : Int) : pushE (last8 A) c = last8 (A ++ [c]) := by
  unfold pushE last8
  have hl : (A ++ [c]).length = A.length + 1 := by simp
  rw [hl, List.length_drop]
  by_cases h : A.length < 8
  · rw [if_pos (by omega), show A.length - 8 = 0 by omega, show A.length + 1 - 8 = 0 by omega]
    rfl
  · rw [if_neg (by omega), List.drop_drop, List.drop_append_of_le_length (by omega)]
    congr 2
    omega
theorem last8_len (A : List Int) : (last8 A).length = min 8 A.length := by
  unfold last8
  rw [List.length_drop]
  omega
theorem last8_zi (A : List Int) (i : Nat) (h : i < min 8 A.length) : zi (last8 A) i = zi A (A.length - 8 + i) := by
  rw [zi_lt (by rw [last8_len]; exact h), zi_lt (by omega)]
  unfold last8
  rw [List.getElem_drop]
theorem lastE_last8 (A : List Int) (h : 0 < A.length) : lastE (last8 A) = zi A (A.length - 1) := by
  unfold lastE
  rw [last8_len, if_neg (by omega), last8_zi A _ (by omega)]
  congr 1
  omega
theorem lastE_rises (ds : List Int) (k : Nat) : lastE (last8 (risesZ ds k)) = sumZ ds k := by
  by_cases h : k = 0
  · subst h; rfl
  · rw [lastE_last8 _ (by rw [risesZ_len]; omega), risesZ_len, risesZ_zi ds k (k - 1) (by omega)]
    congr 1
    omega
theorem sumZ_mono (ds : List Int) (h : ∀ i, 0 ≤ zi ds i) (m : Nat) : ∀ k, m ≤ k → sumZ ds m ≤ sumZ ds k
  | 0, hk => by obtain rfl : m = 0 := by omega
                exact Int.le_refl _
  | k + 1, hk => by
    by_cases e : m = k + 1
    · subst e; exact Int.le_refl _
    · have := sumZ_mono ds h m k (by omega)
      have := h k
      show _ ≤ sumZ ds k + zi ds k
      omega
theorem sumZ_le (ds : List Int) (B : Int) (h : ∀ i, zi ds i ≤ B) : ∀ k : Nat, sumZ ds k ≤ k * B
  | 0 => by show (0 : Int) ≤ _; simp
  | k + 1 => by
    have h1 := sumZ_le ds B h k
    have h2 := h k
    show sumZ ds k + zi ds k ≤ _
    rw [Int.natCast_add, Int.add_mul]
    simp only [Int.natCast_one, Int.one_mul]
    omega
theorem cntE_all (L : List Int) (a b : Int) : ∀ i, (∀ j, j < i → a ≤ zi L j ∧ zi L j ≤ b) → cntE L a b i = i
  | 0, _ => rfl
  | i + 1, h => by
    unfold cntE
    rw [cntE_all L a b i (fun j hj => h j (by omega)), if_pos (h i (by omega))]
theorem cnt_rises (ds : List Int) (h : ∀ i, 0 ≤ zi ds i) (k : Nat) : cntE (last8 (risesZ ds k)) 0 (sumZ ds k) (last8 (risesZ ds k)).length = min 8 k := by
  rw [last8_len, risesZ_len]
  apply cntE_all
  intro j hj
  rw [last8_zi _ _ (by rw [risesZ_len]; exact hj), risesZ_len, risesZ_zi ds k _ (by omega)]
  exact ⟨sumZ_mono ds h 0 _ (by omega), sumZ_mono ds h _ _ (by omega)⟩
theorem RowZ.cut {k : IntKind} {w : World} {b o n c : Nat} {zs : List Int} (h : RowZ k w (.slice (some ⟨b, o, none⟩) n c) zs) (j : Nat) (hj : j ≤ zs.length) :
    RowZ k w (.slice (some ⟨b, o + j, none⟩) (n - j) (c - j)) (zs.drop j) := by
  obtain ⟨A, c', e, hc, hr⟩ := h
  simp only [Value.slice.injEq] at e
  obtain ⟨rfl, rfl, rfl⟩ := e
  refine ⟨_, _, by rw [List.length_drop], by rw [List.length_drop]; omega, fun hp => ?_⟩
  rw [List.length_drop] at hp
  obtain ⟨b', o', e, hb, hcell⟩ := hr (by omega)
  cases e
  refine ⟨b, o + j, rfl, hb, fun i hi => ?_⟩
  rw [List.length_drop] at hi
  rw [show o + j + i = o + (j + i) by omega, hcell (j + i) (by omega)]
  unfold zi
  rw [List.getD_eq_getElem?_getD, List.getD_eq_getElem?_getD, List.getElem?_drop]
-- [LAST
set_option maxRecDepth 100000 in
set_option maxHeartbeats 4000000 in
theorem law_EdgeLast (A : Option Addr) (len cap : Nat) (ds : List Int) (w : World) (h : ZsIn .u32 w A len cap ds) :
    Calls Try.prog 4 #[.slice A len cap] w fun e w' => e = .returned (.bool true) ∧ Grew w w' := by
  obtain ⟨hR, hwf, rfl⟩ := h
  have HR := Lib.hid hR
  have hb : ∀ i, 0 ≤ zi ds i ∧ zi ds i ≤ 4294967295 := fun i => by
    by_cases hi : i < ds.length
    · exact bounds_u32 (hwf i hi)
    · unfold zi
      rw [List.getD_eq_getElem?_getD, List.getElem?_eq_none (by omega)]
      decide
  have HB := Lib.hid hb
  have HK := fun w' => Lib.hid (law_known16 w')
  have HN := Lib.hid (log_New w)
  clear hwf hb hR
  by_cases hl : ds.length ≤ 60
  · have hl' : ¬ (60 : Int) < ds.length := by omega
    go_enter Try.func4, Try.ntmps4
    go_upto_region 6 with (go_at_call 6; refine HN.out.mono ?_; rintro e w1 ⟨rfl, h1, g1⟩)
    obtain ⟨p, HPp⟩ : ∃ p, Hid (w.heap.size = p) := ⟨_, Lib.hid rfl⟩
    rw [HPp.out] at h1 ⊢
    have H1 := Lib.hid h1
    have G1 := Lib.hid g1
    obtain ⟨B, HBB⟩ : ∃ B, Hid (w1.heap.size = B) := ⟨_, Lib.hid rfl⟩
    have hpB : p < B := by rw [← HBB.out]; exact h1.lt
    clear HN h1 g1
    go_wp2_with fail
    go_loopw [4, 5, 18] (fun v s i wr => ∃ k : Nat, k ≤ ds.length ∧ i = .int .i64 (k : Nat) ∧ s = .int .i64 (sumZ ds k) ∧ Hid (OwnZ B 2 .i64 wr v (risesZ ds k)) ∧ Hid (LogR wr p 0 (last8 (risesZ ds k))) ∧ Hid (B ≤ wr.heap.size) ∧ Hid (Grew w wr)) (fun _ _ i _ => ds.length - (intOf i).toNat)
    case atStart => exact ⟨0, Nat.zero_le _, rfl, rfl, Lib.hid (OwnZ.nil _ _ _ _), H1, Lib.hid (by rw [HBB.out]; exact Nat.le_refl _), G1⟩
    case round =>
      obtain ⟨k, hk, rfl, rfl, HO, HL, HBw, G⟩ := hrel
      by_cases hlt : k < ds.length
      · obtain ⟨b, o, rfl, hbl, c0⟩ := (HR.out.grew G.out).at_ hlt
        obtain ⟨d0, d1⟩ := HB.out k
        have hki : (k : Int) < ds.length := by omega
        have hsum := sumZ_le ds 4294967295 (fun i => (HB.out i).2) k
        have hs0 := sumZ_mono ds (fun i => (HB.out i).1) 0 k (by omega)
        rw [show sumZ ds 0 = 0 from rfl] at hs0
        have hs60 : sumZ ds k ≤ 257698037700 := by
          have : (k : Int) * 4294967295 ≤ 60 * 4294967295 := Int.mul_le_mul_of_nonneg_right (by omega) (by decide)
          omega
        have HNX := Lib.hid (risesZ_next ds k)
        have HLX := Lib.hid (last8_push (risesZ ds k) (sumZ ds (k + 1)))
        have hE := Lib.hid (lastE_rises ds k)
        have hS := Lib.hid (show sumZ ds (k + 1) = sumZ ds k + zi ds k from rfl)
        have hrl := Lib.hid (risesZ_len ds k)
        obtain ⟨S1, HS1⟩ : ∃ S1, Hid (sumZ ds (k + 1) = S1) := ⟨_, Lib.hid rfl⟩
        rw [HS1.out] at HNX HLX hS
        generalize sumZ ds k = S at *
        generalize zi ds k = d at *
        have e1 : IntKind.i64.wrap d = d := IntWalk.i64_in _ (by omega)
        have e2 : IntKind.i64.wrap (S + d) = S1 := by rw [hS.out]; exact IntWalk.i64_in _ (by omega)
        have e3 : IntKind.i64.wrap ((k : Int) + 1) = ((k + 1 : Nat) : Int) := by rw [IntWalk.i64_in _ (by omega)]; omega
        have hS1 : 0 ≤ S1 ∧ S ≤ S1 ∧ S1 ≤ 9223372036854775807 := by rw [hS.out]; omega
        obtain ⟨R, hRR⟩ : ∃ R, risesZ ds k = R := ⟨_, rfl⟩
        rw [HNX.out] at HLX
        rw [hRR] at HO HL HNX HLX hE hrl
        obtain ⟨Q, hQ⟩ : ∃ Q, last8 R = Q := ⟨_, rfl⟩
        rw [hQ] at HL HLX hE
        clear hRR hQ d0 d1 hsum hs0 hs60
        have gA := (Grew.refl wr).alloc (.cells #[.int .i64 S1] 2)
        have GA := Lib.hid gA
        have hO1 := HO.out.grew gA
        have hBw : B ≤ (wr.alloc (.cells #[.int .i64 S1] 2)).heap.size := Nat.le_trans HBw.out gA.size
        have hrl8 : (R.length + 1) * 8 ≤ 140737488355328 := by have := hrl.out; omega
        clear gA
        go_wp2_with (first
          | (refine wpList_pushZ _ rfl _ _ 22 rfl B 2 .i64 8 Try.underlying22 infoE64 _ R rfl hO1 ⟨wr.heap.size, 0, none⟩ S1 rfl (by simp [go_sem]) hrl8 (by decide) hBw ?_; intro v2 w2 hO2 hg2; have F2 := (Far.of_grew (F := fun b => u4.ownBlock = some b) GA.out).trans (far_ofGrown hg2); have hL2 := HL.out.far F2 (fun e => by have := (HO.out.lt _ e).1; omega); have G2 := Lib.hid (F2.grew G.out (fun b e => by have := (HO.out.lt _ e).1; have := HPp.out; omega)); have HA := Lib.hid (log_AddOk w2 p 0 Q S1 hL2 (by omega) (by rw [hE.out]; omega)); rw [HNX.out] at hO2; have HO2 := Lib.hid hO2; have hB2 := Lib.hid (Nat.le_trans HBw.out F2.size); rw [HLX.out] at HA)
          | (go_at_call 8; refine HA.out.mono ?_; rintro e w3 ⟨rfl, h3, f3⟩))
        have hO3 := HO2.out.far f3 (fun b e => by have := (HO2.out.lt b e).1; omega)
        exact ⟨⟨k + 1, by omega, by go_num, by rw [HS1.out], Lib.hid hO3, Lib.hid h3, Lib.hid (Nat.le_trans hB2.out f3.size), Lib.hid (f3.grew G2.out (fun b e => by have := HPp.out; omega))⟩, by simp [intOf]; omega⟩
      · obtain rfl : k = ds.length := by omega
        have HLn := fun w' => Lib.hid (edge_Last_none w')
        have HAn := fun w' => Lib.hid (edge_Add_none w' 1)
        have HVn := fun w' => Lib.hid (edge_All_none w')
        have HCn := fun w' => Lib.hid (edge_Count_none w' 0 9)
        have HPn := fun w' => Lib.hid (edge_Copy_none w')
        go_upto_region 16 with (go_at_call 11; refine (HLn _).out.mono ?_; rintro e w2 ⟨rfl, g2⟩)
        go_wp2_with (first
          | (go_at_call 8; refine (HAn _).out.mono ?_; rintro e w3 ⟨rfl, g3⟩)
          | (go_at_call 10; refine (HVn _).out.mono ?_; rintro e w4 ⟨v4, rfl, hO4, g4⟩; obtain ⟨A4, c4, rfl, _⟩ := hO4.row.form; clear hO4)
          | (go_at_call 13; refine (HCn _).out.mono ?_; rintro e w5 ⟨rfl, g5⟩)
          | (go_at_call 7; refine (HPn _).out.mono ?_; rintro e w6 ⟨rfl, g6⟩))
        have G6 : Grew wr w6 := g2.trans (g3.trans (g4.trans (g5.trans g6)))
        have GW := Lib.hid (G.out.trans G6)
        have hL6 := HL.out.grew G6
        have hO6 := HO.out.grew G6
        have hcnt := cnt_rises ds (fun i => (HB.out i).1) ds.length
        have hrl := risesZ_len ds ds.length
        have h80 : last8 (risesZ ds ds.length) = (risesZ ds ds.length).drop (ds.length - 8) := by unfold last8; rw [hrl]
        have hql : (last8 (risesZ ds ds.length)).length ≤ 8 := hL6.len
        generalize sumZ ds ds.length = S at *
        generalize risesZ ds ds.length = R at *
        generalize last8 R = Q at *
        have HV := fun w' (q : Grew w6 w') => Lib.hid (log_All w' p 0 Q (hL6.grew q))
        have HC := fun w' (q : Grew w6 w') => Lib.hid (log_Count w' p 0 Q 0 S (hL6.grew q))
        rw [hcnt] at HC
        obtain ⟨A5, c5, rfl, hc5⟩ := hO6.row.form
        have HR6 := Lib.hid hO6.row
        have H80 := Lib.hid h80
        have HQL := Lib.hid hql
        rw [hrl] at HR6 hc5
        clear HLn HAn HVn HCn HPn HL HO hL6 hO6 hcnt h80 H1 G1 hpB HBw g2 g3 g4 g5 g6 hql
        rw [hrl]
        have G : Grew w6 w6.drew := (Grew.refl w6).drew
        have e8 : IntKind.i64.wrap ((ds.length : Int) - 8) = (ds.length : Int) - 8 := IntWalk.i64_in _ (by omega)
        by_cases h8 : ds.length ≤ 8
        · have h8a : ((ds.length : Int) - 8) ≤ 0 := by omega
          have hif : (if (8 : Int) < ds.length then (ds.length : Int) - 8 else 0) = 0 := by rw [if_neg (by omega)]
          have hmn : (if (ds.length : Int) < 8 then (ds.length : Int) else 8) = ds.length := by split <;> omega
          rw [show min 8 ds.length = ds.length by omega] at HC
          rw [show ds.length - 8 = 0 by omega, List.drop_zero] at H80
          by_cases hcj : c5 = 0
          · have HRc := fun w' (q : Grew w6 w') => Lib.hid (HR6.out.grew q)
            rw [hcj, ← H80.out] at HRc
            go_region_held3 (fun _ => True) (exact trivial) ((first
              | (go_at_call 10; refine (HV _ G).out.mono ?_; rintro e w7 ⟨v7, rfl, hO7, g7⟩; replace G := G.trans g7; have HS := Lib.hid (ref16_Same w7 v7 _ Q Q hO7.row (HRc _ G).out (by have := HQL.out; omega)); rw [decide_eq_true rfl] at HS)
              | (go_at_call 12; refine HS.out.mono ?_; rintro e w8 ⟨rfl, g8⟩; replace G := G.trans g8)
              | (go_at_call 13; refine (HC _ G).out.mono ?_; rintro e w9 ⟨rfl, g9⟩; replace G := G.trans g9)
              | (go_at_call 5; refine (HK _).out.mono ?_; rintro e w10 ⟨rfl, g10⟩; replace G := G.trans g10)))
            all_goals go_wp2_with fail
            all_goals go_ret
            all_goals exact ⟨rfl, GW.out.trans G⟩
          · have HRc := fun w' (q : Grew w6 w') => Lib.hid (HR6.out.grew q)
            rw [← H80.out] at HRc
            go_region_held3 (fun _ => True) (exact trivial) ((first
              | (go_at_call 10; refine (HV _ G).out.mono ?_; rintro e w7 ⟨v7, rfl, hO7, g7⟩; replace G := G.trans g7; have HS := Lib.hid (ref16_Same w7 v7 _ Q Q hO7.row (HRc _ G).out (by have := HQL.out; omega)); rw [decide_eq_true rfl] at HS)
              | (go_at_call 12; refine HS.out.mono ?_; rintro e w8 ⟨rfl, g8⟩; replace G := G.trans g8)
              | (go_at_call 13; refine (HC _ G).out.mono ?_; rintro e w9 ⟨rfl, g9⟩; replace G := G.trans g9)
              | (go_at_call 5; refine (HK _).out.mono ?_; rintro e w10 ⟨rfl, g10⟩; replace G := G.trans g10)))
            all_goals go_wp2_with fail
            all_goals go_ret
            all_goals exact ⟨rfl, GW.out.trans G⟩
        · have h8a : (0 : Int) < (ds.length : Int) - 8 := by omega
          have hb1 : (0 : Int) ≤ (ds.length : Int) - 8 := by omega
          have hb3 : (8 : Int) ≤ ds.length := by omega
          have hb4 : 8 ≤ ds.length := by omega
          have hb5 : (8 : Int) < ds.length := by omega
          have hcj2 : ¬ c5 = ((ds.length : Int) - 8).toNat := by omega
          have hcj3 : ¬ (c5 : Int) = (ds.length : Int) - 8 := by omega
          have hb2 : (ds.length : Int) - 8 ≤ ds.length := by omega
          have hto : ((ds.length : Int) - 8).toNat = ds.length - 8 := by omega
          have h8b : ¬ (ds.length : Int) < 8 := by omega
          have hif : (if (8 : Int) < ds.length then (ds.length : Int) - 8 else 0) = (ds.length : Int) - 8 := by rw [if_pos (by omega)]
          have hmn : (if (ds.length : Int) < 8 then (ds.length : Int) else 8) = 8 := by rw [if_neg (by omega)]
          rw [show min 8 ds.length = 8 by omega] at HC
          obtain ⟨b5, o5, rfl, _⟩ := HR6.out.at_ (i := 0) (by rw [hrl]; omega)
          have HRc := fun w' (q : Grew w6 w') => Lib.hid ((HR6.out.grew q).cut (ds.length - 8) (by rw [hrl]; omega))
          rw [← H80.out] at HRc
          have hcj : ¬ c5 = ds.length - 8 := by omega
          · go_region_held3 (fun _ => True) (exact trivial) ((first
              | (go_at_call 10; refine (HV _ G).out.mono ?_; rintro e w7 ⟨v7, rfl, hO7, g7⟩; replace G := G.trans g7; have HS := Lib.hid (ref16_Same w7 v7 _ Q Q hO7.row (HRc _ G).out (by have := HQL.out; omega)); rw [decide_eq_true rfl] at HS)
              | (go_at_call 12; refine HS.out.mono ?_; rintro e w8 ⟨rfl, g8⟩; replace G := G.trans g8)
              | (go_at_call 13; refine (HC _ G).out.mono ?_; rintro e w9 ⟨rfl, g9⟩; replace G := G.trans g9)
              | (go_at_call 5; refine (HK _).out.mono ?_; rintro e w10 ⟨rfl, g10⟩; replace G := G.trans g10)))
            all_goals go_wp2_with fail
            all_goals go_ret
            all_goals exact ⟨rfl, GW.out.trans G⟩
  · have hl' : (60 : Int) < ds.length := by omega
    go_enter Try.func4, Try.ntmps4
    go_wp2_with (go_at_call 5; refine (HK _).out.mono ?_; rintro e w2 ⟨rfl, g2⟩)
    go_ret
    exact ⟨rfl, g2⟩
-- LAST]
end Go.Proofs.Ytinkmpndlikgfaa
