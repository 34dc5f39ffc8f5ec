/-
  The program's sentences: a kind by a first field, the walk.
-/
import Derived.Test.YtlcmjedbdopglaaGreatDoorNmpQ
import Derived.Deep.RegionHeld3
namespace Go.Proofs.YtlcmjedbdopglaaGreatDoor
open Go.RowKit
set_option linter.unusedVariables false

theorem nvals_form (M k : Nat) (hk : k < 7) : ∃ a b d v g, (nvals M).getD k (.int .i64 0) = .agg #[.int .u8 a, .int .i64 b, .int .i64 d, v, .func (.func g) #[] #[]] ∧ ∃ A m c, v = .slice A m c := by
  rcases (show k = 0 ∨ k = 1 ∨ k = 2 ∨ k = 3 ∨ k = 4 ∨ k = 5 ∨ k = 6 by omega) with rfl | rfl | rfl | rfl | rfl | rfl | rfl <;> exact ⟨_, _, _, _, _, rfl, _, _, _, rfl⟩
theorem kind_no {s : ByteArray} {j : Nat} (h2 : 2 ≤ s.size) (hj : j < 2) (hc : capital (wd (nat s) j) = false) : kindOfN (nat s) = 0 := by
  unfold kindOfN
  rw [if_pos]
  rcases (show j = 0 ∨ j = 1 by omega) with rfl | rfl
  · exact .inr (.inl hc)
  · exact .inr (.inr hc)
theorem kind_yes {s : ByteArray} (h2 : 2 ≤ s.size) (h0 : ∀ j, j < 2 → capital (wd (nat s) j) = true) : kindOfN (nat s) = lettersOf (nat (s.extract 2 s.size)) := by
  unfold kindOfN
  rw [if_neg, drop_nat]
  rintro (h | h | h)
  · rw [nat_length] at h; omega
  · rw [h0 0 (by omega)] at h; cases h
  · rw [h0 1 (by omega)] at h; cases h
/-- Behind the map's look-up: the kind's variable, and whether there is one. -/
def Looked9 (W : World) (k : Option Nat) (p q : Value) (wx : World) : Prop :=
  ∃ (vb : Nat), p = .pointer (some ⟨vb, 0, none⟩) ∧ W.heap.size ≤ vb ∧ Grew W wx ∧
    ((k = none ∧ q = .bool false ∧ KAt wx vb (.int .u8 0) (.int .i64 0) (.int .i64 0) (.slice none 0 0) .nilFunc) ∨
     ∃ (j M : Nat) (a b d : Int) (A : Option Addr) (m c g : Nat), k = some j ∧ q = .bool true ∧ KAt wx vb (.int .u8 a) (.int .i64 b) (.int .i64 d) (.slice A m c) (.func (.func g) #[] #[]) ∧ (nvals M).getD j (.int .i64 0) = .agg #[.int .u8 a, .int .i64 b, .int .i64 d, .slice A m c, .func (.func g) #[] #[]] ∧ NKinds wx M ∧ W.heap.size ≤ M)
theorem nk_kindsM (w : World) (M : Nat) (hM : w.heap.size = M) : Calls Tryz.prog 35 #[] w fun e w' => e = .returned (.map (some M)) ∧ NKinds w' M ∧ Grew w w' := by
  subst hM; exact nk_kinds w
set_option maxHeartbeats 4000000 in
set_option maxRecDepth 100000 in
theorem nk_kindOf (s : ByteArray) (w : World) (hs : s.size ≤ 1000) : Calls Tryz.prog 20 #[.string s] w (KindT s w) := by
  obtain ⟨W, hW, gW, cW, sW⟩ := newKind w
  have K0 := KAt.of cW
  have FZ := fun (V : World) => Lib.hid (far_kset V w.heap.size (.int .u8 0) (.int .i64 0) (.int .i64 0) (.slice none 0 0) .nilFunc)
  unfold kset at FZ
  have HG := Lib.hid gW
  by_cases h2 : s.size < 2
  · have hk : Hid (kindOfN (nat s) = 0) := by show _ = _; unfold kindOfN; rw [if_pos (.inl (by rw [nat_length]; exact h2))]
    have c2 : (s.size : Int) < 2 := by omega
    obtain ⟨_, a0, a1, a2, a3, a4, b0, b1, b2, b3, b4⟩ := K0
    clear gW cW sW h2
    go_enter Tryz.func20, Tryz.ntmps20
    go_wp2_with fail
    refine bodyPost_ret (by simp [results, Tryz.results20, go_sem, a0, a1, a2, a3, a4]; try rfl) rfl ?_
    exact ⟨Far.grew (FZ _).out HG.out (fun k hk => Nat.le_of_eq hk.symm), .inl ⟨hk.out, rfl⟩⟩
  · have c2 : ¬ (s.size : Int) < 2 := by omega
    have HA := fun j h w => Lib.hid (str_at s j h w)
    have HB := fun j => Lib.hid (nat_lt s j)
    have HNO := fun j h h' => Lib.hid (kind_no (s := s) (j := j) (by omega) h h')
    have HYES := Lib.hid (fun h => kind_yes (s := s) (by omega) h)
    go_enter Tryz.func20, Tryz.ntmps20
    go_wp2_with fail
    go_loop [4, 11] (fun _ i => ∃ j : Nat, j ≤ 2 ∧ i = .int .i64 (j : Nat) ∧ Hid (∀ q, q < j → capital (wd (nat s) q) = true)) (fun _ i => 2 - (intOf i).toNat)
    case atStart => exact ⟨0, by omega, rfl, fun q hq => by omega⟩
    case round =>
    obtain ⟨j, hj, rfl, hM⟩ := hrel
    by_cases hlt : j < 2
    · have y := fun w => (HA j (by omega) w).out
      have x256 := (HB j).out
      have j0 : (j : Int) < 2 := by omega
      have j1 : (0 : Int) ≤ j := by omega
      obtain ⟨c, hc⟩ : ∃ c, wd (nat s) j = c := ⟨_, rfl⟩
      have HN := HNO j hlt
      rw [hc] at y x256 HN
      have HC := Lib.hid hc
      clear hc HA HB HNO HYES
      by_cases hlo : c < 65
      · have l1 : (c : Int) < 65 := by omega
        have hk := HN (by unfold capital; exact decide_eq_false (by omega))
        obtain ⟨_, a0, a1, a2, a3, a4, b0, b1, b2, b3, b4⟩ := K0
        clear HN hlo hM cW sW
        go_wp2_with fail
        refine bodyPost_ret (by simp [results, Tryz.results20, go_sem, a0, a1, a2, a3, a4]; try rfl) rfl ?_
        exact ⟨Far.grew (FZ _).out HG.out (fun k hk => Nat.le_of_eq hk.symm), .inl ⟨hk.out, rfl⟩⟩
      · by_cases hhi : 90 < c
        · have l1 : ¬ (c : Int) < 65 := by omega
          have l2 : (90 : Int) < c := by omega
          have hk := HN (by unfold capital; exact decide_eq_false (by omega))
          obtain ⟨_, a0, a1, a2, a3, a4, b0, b1, b2, b3, b4⟩ := K0
          clear HN hlo hhi hM cW sW
          go_wp2_with fail
          refine bodyPost_ret (by simp [results, Tryz.results20, go_sem, a0, a1, a2, a3, a4]; try rfl) rfl ?_
          exact ⟨Far.grew (FZ _).out HG.out (fun k hk => Nat.le_of_eq hk.symm), .inl ⟨hk.out, rfl⟩⟩
        · have l1 : ¬ (c : Int) < 65 := by omega
          have l2 : ¬ (90 : Int) < c := by omega
          have HM2 : Hid (∀ q, q < j + 1 → capital (wd (nat s) q) = true) := fun q hq => by
            rcases Nat.lt_or_ge q j with h | h
            · exact hM.out q h
            · obtain rfl : q = j := by omega
              rw [HC.out]; unfold capital; exact decide_eq_true (by omega)
          clear HN hlo hhi hM cW sW
          go_wp2_with fail
          go_round
          case rel => exact ⟨j + 1, by omega, by simp, HM2⟩
          case measure => simp [intOf]; omega
    obtain rfl : j = 2 := by omega
    have HY := Lib.hid (HYES.out (fun q hq => hM.out q hq))
    have s2 : (2 : Int) ≤ s.size := by omega
    clear HA HB HNO HYES hM
    go_upto_region 9 with fail
    have sW2 : (W.drew.alloc (.cells #[.int .u8 0, .int .i64 0, .int .i64 0, .slice none 0 0, .nilFunc] 60)).heap.size = w.heap.size + 2 := by
      rw [World.size_alloc]; show W.heap.size + 1 = _; omega
    have KZ : KAt (W.drew.alloc (.cells #[.int .u8 0, .int .i64 0, .int .i64 0, .slice none 0 0, .nilFunc] 60)) (w.heap.size + 1) (.int .u8 0) (.int .i64 0) (.int .i64 0) (.slice none 0 0) .nilFunc := by
      have := KAt.of (heap_alloc_new W.drew (.cells #[.int .u8 0, .int .i64 0, .int .i64 0, .slice none 0 0, .nilFunc] 60))
      rwa [show W.drew.heap.size = w.heap.size + 1 from sW] at this
    have GD : Grew W W.drew := (Grew.refl W).drew
    have GDA : Grew W (W.drew.alloc (.cells #[.int .u8 0, .int .i64 0, .int .i64 0, .slice none 0 0, .nilFunc] 60)) := GD.alloc _
    rcases letters_key (s.extract 2 s.size) with ⟨h0, hne⟩ | ⟨k, hk, hl, hx⟩
    · rw [h0] at HY
      have HL := fun w M h => Lib.hid (nk_lost w M (s.extract 2 s.size) h hne)
      unfold zeroKind at HL
      clear h0 hne cW
      go_cut [5, 6] (fun p q wx => Looked9 W none p q wx)
      case first =>
        go_region_with (first
          | (go_at_call 35; refine (nk_kindsM W.drew (w.heap.size + 1) sW).mono ?_; rintro e w1 ⟨rfl, hN, g1⟩; have hlk := (HL _ _ hN.map).out; have hlk2 := (HL _ _ (hN.grew ((Grew.refl w1).alloc (.cells #[.int .u8 0, .int .i64 0, .int .i64 0, .slice none 0 0, .nilFunc] 60))).map).out)
          | (go_at_call 35; refine (nk_kindsM (W.drew.alloc (.cells #[.int .u8 0, .int .i64 0, .int .i64 0, .slice none 0 0, .nilFunc] 60)) (w.heap.size + 2) sW2).mono ?_; rintro e w1 ⟨rfl, hN, g1⟩; have hlk := (HL _ _ hN.map).out; obtain ⟨_, z0, z1, z2, z3, z4, y0, y1, y2, y3, y4⟩ := KZ.grew g1))
        all_goals
          go_wp2_with fail
          go_meet
          first
            | exact ⟨_, rfl, (GD.trans g1).size, (GD.trans g1).alloc _, .inl ⟨rfl, rfl, KAt.of (heap_alloc_new w1 _)⟩⟩
            | exact ⟨_, rfl, Nat.le_of_eq sW, Far.grew (far_kset w1 _ _ _ _ _ _) (GDA.trans g1) (fun j hj => by have hj' : j = w.heap.size + 1 := hj; omega), .inl ⟨rfl, rfl, KAt.set0 (KZ.grew g1) _ _ _ _ _⟩⟩
      case rest =>
        obtain ⟨vb, rfl, hvb, gx, ⟨_, rfl, KX⟩ | ⟨j, M, a, b, d, A, m, c, g, hj, _⟩⟩ := hcut
        · obtain ⟨_, a0, a1, a2, a3, a4, b0, b1, b2, b3, b4⟩ := K0.grew gx
          obtain ⟨_, z0, z1, z2, z3, z4, _⟩ := KX
          clear K0 KZ GD GDA sW2
          go_wp2_with fail
          refine bodyPost_ret (by simp [results, Tryz.results20, go_sem, a0, a1, a2, a3, a4]; try rfl) rfl ?_
          exact ⟨Far.grew (far_kset wc w.heap.size (.int .u8 0) (.int .i64 0) (.int .i64 0) (.slice none 0 0) .nilFunc) (HG.out.trans gx) (fun k hk => Nat.le_of_eq hk.symm), .inl ⟨HY.out, rfl⟩⟩
        · cases hj
    · rw [hl] at HY
      have HL : ∀ w M, w.heap[M]? = some (.map (nkinds M 7) 7) → Hid (Sem.run Tryz.prog (Instr.lookup 87 (.map (some M)) (.string (s.extract 2 s.size)) true) w = .ok (.tuple #[(nvals M).getD k (.int .i64 0), .bool true]) w) := fun w M h => by
        rw [hx]; exact nk_found w M k h hk
      have HK := Lib.hid hk
      clear hl hx cW
      go_cut [5, 6] (fun p q wx => Looked9 W (some k) p q wx)
      case first =>
        obtain ⟨a, b, d, v, g, hv, A, m, c, rfl⟩ := nvals_form (w.heap.size + 1) k hk
        obtain ⟨a', b', d', v', g', hv', A', m', c', rfl⟩ := nvals_form (w.heap.size + 2) k hk
        have HV := Lib.hid hv
        have HV' := Lib.hid hv'
        have HL1 : ∀ w2 : World, w2.heap[w.heap.size + 1]? = some (.map (nkinds (w.heap.size + 1) 7) 7) → Hid _ := fun w2 h => by have := (HL w2 _ h).out; rw [hv] at this; exact this
        have HL2 : ∀ w2 : World, w2.heap[w.heap.size + 2]? = some (.map (nkinds (w.heap.size + 2) 7) 7) → Hid _ := fun w2 h => by have := (HL w2 _ h).out; rw [hv'] at this; exact this
        clear HL hv hv' hk
        go_region_with (first
          | (go_at_call 35; refine (nk_kindsM W.drew (w.heap.size + 1) sW).mono ?_; rintro e w1 ⟨rfl, hN, g1⟩; have hlk := (HL1 _ hN.map).out; have hlk2 := (HL1 _ (hN.grew ((Grew.refl w1).alloc (.cells #[.int .u8 0, .int .i64 0, .int .i64 0, .slice none 0 0, .nilFunc] 60))).map).out)
          | (go_at_call 35; refine (nk_kindsM (W.drew.alloc (.cells #[.int .u8 0, .int .i64 0, .int .i64 0, .slice none 0 0, .nilFunc] 60)) (w.heap.size + 2) sW2).mono ?_; rintro e w1 ⟨rfl, hN, g1⟩; have hlk := (HL2 _ hN.map).out; obtain ⟨_, z0, z1, z2, z3, z4, y0, y1, y2, y3, y4⟩ := KZ.grew g1))
        all_goals
          go_wp2_with fail
          go_meet
          first
            | exact ⟨_, rfl, (GD.trans g1).size, (GD.trans g1).alloc _, .inr ⟨k, w.heap.size + 1, a, b, d, A, m, c, g, rfl, rfl, KAt.of (heap_alloc_new w1 _), HV.out, hN.grew ((Grew.refl w1).alloc _), Nat.le_of_eq sW⟩⟩
            | exact ⟨_, rfl, Nat.le_of_eq sW, Far.grew (far_kset w1 _ _ _ _ _ _) (GDA.trans g1) (fun j hj => by have hj' : j = w.heap.size + 1 := hj; omega), .inr ⟨k, w.heap.size + 2, a', b', d', A', m', c', g', rfl, rfl, KAt.set0 (KZ.grew g1) _ _ _ _ _, HV'.out, hN.far (far_kset w1 _ _ _ _ _ _) (.inl (by omega)), by omega⟩⟩
      case rest =>
        obtain ⟨vb, rfl, hvb, gx, ⟨hj, _⟩ | ⟨j, M, a, b, d, A, m, c, g, hj, rfl, KX, hv, hN, hM⟩⟩ := hcut
        · cases hj
        · cases hj
          obtain ⟨_, a0, a1, a2, a3, a4, b0, b1, b2, b3, b4⟩ := K0.grew gx
          obtain ⟨_, z0, z1, z2, z3, z4, _⟩ := KX
          have HV := Lib.hid hv
          have hb := sW
          clear K0 KZ GD GDA sW2 hv HL hk
          go_wp2_with fail
          refine bodyPost_ret (by simp [results, Tryz.results20, go_sem, a0, a1, a2, a3, a4]; try rfl) rfl ?_
          have FW := far_kset wc w.heap.size (.int .u8 a) (.int .i64 b) (.int .i64 d) (.slice A m c) (.func (.func g) #[] #[])
          exact ⟨Far.grew FW (HG.out.trans gx) (fun k hk => Nat.le_of_eq hk.symm), .inr ⟨k, M, HK.out, HY.out, by rw [HV.out], hN.far FW (.inl (by omega)), by omega⟩⟩
end Go.Proofs.YtlcmjedbdopglaaGreatDoor
