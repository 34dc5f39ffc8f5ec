/-
  The laws of dialogues: ticks a timeout apart end one.
  The laws of dialogues: the program's dialogue beside the document's; a list that is copied.
-/
import Derived.Test.YtcdmbnbanopioaaDllA
namespace Go.Proofs.Ytcdmbnbanopioaa
open Go.RowKit
set_option linter.unusedVariables false

/- The laws of dialogues: ticks a timeout apart end one. -/
/-- A sum over the first so many. -/
def lsumTo {α : Type} (f : α → Nat) (l : List α) (k : Nat) : Nat := ((l.take k).map f).sum
theorem lsumTo_next {α : Type} (f : α → Nat) (l : List α) (k : Nat) (h : k < l.length) : lsumTo f l (k + 1) = lsumTo f l k + f l[k] := by
  unfold lsumTo
  rw [List.take_succ_eq_append_getElem h, List.map_append, List.sum_append]
  simp
theorem lsumTo_all {α : Type} (f : α → Nat) (l : List α) : lsumTo f l l.length = (l.map f).sum := by
  unfold lsumTo
  rw [List.take_length]
theorem lsumTo_le {α : Type} (f : α → Nat) (l : List α) (B : Nat) (hf : ∀ x ∈ l, f x ≤ B) : ∀ k, lsumTo f l k ≤ k * B
  | 0 => by simp [lsumTo]
  | k + 1 => by
    have ih := lsumTo_le f l B hf k
    by_cases h : k < l.length
    · rw [lsumTo_next f l k h, Nat.succ_mul]
      have := hf _ (List.getElem_mem h)
      omega
    · have : lsumTo f l (k + 1) = lsumTo f l k := by
        unfold lsumTo
        rw [List.take_of_length_le (by omega), List.take_of_length_le (by omega)]
      rw [this, Nat.succ_mul]
      omega
theorem split_sum : ∀ l : List Cmd, (l.map fun c => if c.wait = 0 then 1 else 0).sum + (l.map fun c => if c.wait = 0 then 0 else 1).sum = l.length
  | [] => rfl
  | c :: l => by
    have ih := split_sum l
    simp only [List.map_cons, List.sum_cons, List.length_cons]
    split <;> omega
/-- What stands behind as many ticks as all tries, and one. -/
theorem ends_all (cs : List Cmd) (tmo : Int) (tries : Nat) (ht : 0 < tries) (hp : 0 < tmo) (W : Nat) (hW : wantOf tries cs = W) :
    (ticksTo (dlgNew cs tmo tries) (W + 1)).2 = W ∧ doneOf (ticksTo (dlgNew cs tmo tries) (W + 1)).1.rows = (cs.map fun c => if c.wait = 0 then 1 else 0).sum ∧ lostOf (ticksTo (dlgNew cs tmo tries) (W + 1)).1.rows = (cs.map fun c => if c.wait = 0 then 0 else 1).sum ∧ leftOf (ticksTo (dlgNew cs tmo tries) (W + 1)).1.rows = 0 ∧ flyOf (ticksTo (dlgNew cs tmo tries) (W + 1)).1.rows = false := by
  obtain ⟨⟨_, _, e3⟩, _, _, _, _, hs, he⟩ := ticks_going cs tmo tries ht hp (W + 1)
  rw [hW] at hs he
  obtain ⟨c1, c2, c3, c4⟩ := ended_counts _ (he (by omega))
  rw [e3] at c1 c2
  exact ⟨by rw [hs]; omega, c1, c2, c3, c4⟩
theorem opsAt_nil (w : World) : OpsAt w (.slice none 0 0) [] := ⟨none, 0, rfl, Nat.le_refl _, fun h => absurd h (Nat.lt_irrefl _)⟩
-- [ENDS
set_option maxRecDepth 100000 in
set_option maxHeartbeats 8000000 in
theorem law_DialogEnds {R : (Nat → Prop) → World → Value → (Nat → Prop) → Dlg → Prop} (C : DlgCalls R) (X : Nat → Prop) (lv : Value) (cs : List Cmd) (tmo tries : Int) (w : World) (h1 : CmdsAt X w lv cs) (hX : ∀ b, X b → b < w.heap.size) (n1 : cs.length ≤ 281474976710656) (m1 : ∀ c ∈ cs, c.wait < 256 ∧ c.cls < 256 ∧ c.id < 256 ∧ Bytes c.b ∧ c.b.length ≤ 281474976710656) (ht : -9223372036854775808 ≤ tmo ∧ tmo ≤ 9223372036854775807) (hr : -9223372036854775808 ≤ tries ∧ tries ≤ 9223372036854775807) :
    Calls Try.prog 4 #[lv, .int .i64 tmo, .int .i64 tries] w fun e w' => e = .returned (.bool true) ∧ Grew w w' := by
  have H1 := Lib.hid h1
  have M1 := Lib.hid m1
  have HG := Lib.hid (law_great X lv (.slice none 0 0) cs [] w h1 (opsAt_nil w) n1 (by decide) (fun c hc => (m1 c hc).2.2.2.2) (fun q hq => by simp at hq))
  have HK := fun w' => Lib.hid (law_known14 C w')
  have HM := fun (n : cs.length ≤ 20) (m : ∀ c ∈ cs, c.b.length ≤ 1100) => Lib.hid (law_may X lv cs tmo tries w h1 n m ht hr)
  have HN := fun w' (G : Grew w w') (n : cs.length ≤ 20) (m : ∀ c ∈ cs, c.b.length ≤ 1100) => Lib.hid (C.new X lv cs tmo tries w' (h1.grew G) (fun b hb => Nat.lt_of_lt_of_le (hX b hb) G.size) n (fun c hc => ⟨(m1 c hc).1, (m1 c hc).2.1, (m1 c hc).2.2.1, (m1 c hc).2.2.2.1, m c hc⟩) ht hr)
  unfold GreatT at HG
  unfold MayT at HM
  obtain ⟨A1, c1, rfl, hc1, _⟩ := h1
  clear m1 n1
  go_enter Try.func4, Try.ntmps4
  go_upto_region 1 with fail
  go_cut [34] (fun s wx => ∃ r : Bool, s = .bool r ∧ Hid (Grew w wx) ∧ (r = false → (∀ c ∈ cs, c.b.length ≤ 1100) ∧ cs.length ≤ 20 ∧ mayDlg cs tmo tries))
  case first =>
    go_wp2_with (go_at_call 5; refine HG.out.mono ?_; rintro e w1 ⟨r, rfl, rfl, hb⟩; cases r)
    all_goals first
      | (go_meet; exact ⟨true, rfl, Lib.hid (Grew.refl w), fun q => by cases q⟩)
      | (refine (HM (hb (by trivial)).2.1 (hb (by trivial)).1).out.mono ?_; rintro e w2 ⟨r2, rfl, g2, hm⟩; go_wp2_with fail; go_meet; exact ⟨!r2, rfl, Lib.hid g2, fun q => ⟨(hb (by trivial)).1, (hb (by trivial)).2.1, hm.1 (by simpa using q)⟩⟩)
  case rest =>
    obtain ⟨r, rfl, G1, hb⟩ := hcut
    obtain ⟨wX, hwX⟩ : ∃ x, x = wc := ⟨_, rfl⟩
    subst hwX
    cases r with
    | true =>
      go_wp2_with (go_at_call 6; refine (HK _).out.mono ?_; rintro e w2 ⟨rfl, g2⟩)
      go_ret
      exact ⟨rfl, G1.out.trans g2⟩
    | false =>
      obtain ⟨hb1, hb2, hmay⟩ := hb rfl
      have HNN := Lib.hid (HN _ G1.out hb2 hb1).out
      have hok := DlgOk.new hmay
      have hmy := hmay
      obtain ⟨_, hc16, t1, t2, t3, t4⟩ := hmy
      clear HG HM HN hb hb1
      go_upto_region 4 with (go_at_call 7; refine HNN.out.mono ?_; rintro e w2 ⟨g2, hy, _⟩; obtain ⟨p, F, K0, rfl, hR, hF⟩ := hy hmay)
      have G2 := Lib.hid (G1.out.trans g2)
      have hF1 : ∀ b, F b → w.heap.size ≤ b := fun b hb => by have := hF b (.inl hb); have := G1.out.size; omega
      obtain ⟨tn, htn⟩ : ∃ tn : Nat, tries.toNat = tn := ⟨_, rfl⟩
      have htr : tries = (tn : Int) := by omega
      rw [htn] at hR hok
      subst htr
      clear htn
      have htn8 : 1 ≤ tn ∧ tn ≤ 8 := by omega
      have hR1 := Lib.hid hR
      have hOK := Lib.hid hok
      have E := Lib.hid (ends_all cs tmo tn (by omega) (by omega) (wantOf tn cs) rfl)
      have hwb : wantOf tn cs ≤ 128 := by
        have := lsumTo_le (fun c : Cmd => if c.wait = 0 then 1 else tn) cs 8 (fun x _ => by show (if x.wait = 0 then _ else _) ≤ _; split <;> omega) cs.length
        rw [lsumTo_all] at this
        show (cs.map _).sum ≤ 128
        omega
      have hWn := Lib.hid (lsumTo_all (fun c : Cmd => if c.wait = 0 then 1 else tn) cs)
      have hLn := Lib.hid (lsumTo_all (fun c : Cmd => if c.wait = 0 then 0 else 1) cs)
      have hSS := Lib.hid (split_sum cs)
      have hLb := fun k => lsumTo_le (fun c : Cmd => if c.wait = 0 then 0 else 1) cs 1 (fun x _ => by show (if x.wait = 0 then _ else _) ≤ _; split <;> omega) k
      have hWb := fun k => lsumTo_le (fun c : Cmd => if c.wait = 0 then 1 else tn) cs 8 (fun x _ => by show (if x.wait = 0 then _ else _) ≤ _; split <;> omega) k
      replace hLb := Lib.hid hLb
      replace hWb := Lib.hid hWb
      clear hR hok HNN hF g2
      go_wp2_with fail
      go_loopw [10, 11, 51] (fun a b i wr => ∃ k : Nat, k ≤ cs.length ∧ a = .int .i64 (lsumTo (fun c : Cmd => if c.wait = 0 then 1 else tn) cs k : Nat) ∧ b = .int .i64 (lsumTo (fun c : Cmd => if c.wait = 0 then 0 else 1) cs k : Nat) ∧ i = .int .i64 (k : Nat) ∧ Hid (Grew w2 wr)) (fun _ _ i _ => cs.length - (intOf i).toNat)
      case atStart => exact ⟨0, Nat.zero_le _, by simp [lsumTo], by simp [lsumTo], rfl, Lib.hid (Grew.refl _)⟩
      case round =>
        obtain ⟨k, hk, rfl, rfl, rfl, G⟩ := hrel
        by_cases hlt : k < cs.length
        · obtain ⟨b, o, cc, fv, e, _, hd, _⟩ := (H1.out.grew (G2.out.trans G.out)).at_ k hlt
          cases e
          have q0 := hd.c0
          have q1 := hd.c1
          have q2 := hd.c2
          have q3 := hd.c3
          have hbw := hd.lt
          obtain ⟨A3, c3, rfl, hc3, _⟩ := hd.row
          have hki : (k : Int) < cs.length := by omega
          have s1 := Lib.hid (lsumTo_next (fun c : Cmd => if c.wait = 0 then 1 else tn) cs k hlt)
          have s2 := Lib.hid (lsumTo_next (fun c : Cmd => if c.wait = 0 then 0 else 1) cs k hlt)
          have b1 := hWb.out k
          have b2 := hLb.out k
          clear hd
          generalize lsumTo (fun c : Cmd => if c.wait = 0 then 1 else tn) cs k = S1 at *
          generalize lsumTo (fun c : Cmd => if c.wait = 0 then 0 else 1) cs k = S2 at *
          generalize cs[k] = q at *
          have gV := (Grew.refl wr).alloc (.cells #[.slice A3 q.b.length c3, .int .u8 (q.wait : Nat), .int .u8 (q.cls : Nat), .int .u8 (q.id : Nat)] 28)
          have G3 := Lib.hid (G.out.trans gV)
          have e1 : IntKind.i64.wrap ((S1 : Int) + 1) = ((S1 + 1 : Nat) : Int) := by rw [IntWalk.i64_in _ (by omega)]; omega
          have e2 : IntKind.i64.wrap ((S2 : Int) + 1) = ((S2 + 1 : Nat) : Int) := by rw [IntWalk.i64_in _ (by omega)]; omega
          have e3 : IntKind.i64.wrap ((S1 : Int) + tn) = ((S1 + tn : Nat) : Int) := by rw [IntWalk.i64_in _ (by omega)]; omega
          by_cases hw : q.wait = 0
          · have s1' : Hid (lsumTo (fun c : Cmd => if c.wait = 0 then 1 else tn) cs (k + 1) = S1 + 1) := Lib.hid (by rw [s1.out, if_pos hw])
            have s2' : Hid (lsumTo (fun c : Cmd => if c.wait = 0 then 0 else 1) cs (k + 1) = S2) := Lib.hid (by rw [s2.out, if_pos hw]; rfl)
            rw [hw] at q1 G3
            go_wp2_with fail
            go_round
            case rel => exact ⟨k + 1, by omega, by rw [s1'.out]; go_num, by rw [s2'.out], by go_num, G3⟩
            case measure => simp [intOf]; omega
          · have s1' : Hid (lsumTo (fun c : Cmd => if c.wait = 0 then 1 else tn) cs (k + 1) = S1 + tn) := Lib.hid (by rw [s1.out, if_neg hw])
            have s2' : Hid (lsumTo (fun c : Cmd => if c.wait = 0 then 0 else 1) cs (k + 1) = S2 + 1) := Lib.hid (by rw [s2.out, if_neg hw])
            have hw' : ((q.wait : Int) == 0) = false := by rw [beq_eq_false_iff_ne]; omega
            go_wp2_with fail
            go_round
            case rel => exact ⟨k + 1, by omega, by rw [s1'.out]; go_num, by rw [s2'.out]; go_num, by go_num, G3⟩
            case measure => simp [intOf]; omega
        · obtain rfl : k = cs.length := by omega
          rw [hWn.out, hLn.out]
          obtain ⟨W, hW⟩ : ∃ W, (cs.map fun c : Cmd => if c.wait = 0 then 1 else tn).sum = W := ⟨_, rfl⟩
          obtain ⟨Z, hZ⟩ : ∃ Z, (cs.map fun c : Cmd => if c.wait = 0 then 0 else 1).sum = Z := ⟨_, rfl⟩
          obtain ⟨Y, hY⟩ : ∃ Y, (cs.map fun c : Cmd => if c.wait = 0 then 1 else 0).sum = Y := ⟨_, rfl⟩
          have hw1 : wantOf tn cs = W := hW
          have E1 := E.out
          have S1 := hSS.out
          rw [hw1] at E1 hwb
          rw [hZ, hY] at E1 S1
          rw [hW, hZ]
          have hSB := Lib.hid (fun k => (ticks_going cs tmo tn (by omega) (by omega) k).2.2.2.2.2.1)
          have hST := Lib.hid (fun k => (show ticksTo (dlgNew cs tmo tn) (k + 1) = (((ticksTo (dlgNew cs tmo tn) k).1.tick (k * tmo)).1, (ticksTo (dlgNew cs tmo tn) k).2 + if ((ticksTo (dlgNew cs tmo tn) k).1.tick (k * tmo)).2.isSome then 1 else 0) from rfl))
          have E2 := Lib.hid E1
          have G5 := Lib.hid (G2.out.trans G.out)
          have hR2 := Lib.hid (C.far hR1.out (Far.of_grew (F := fun _ => False) G.out) (fun _ _ q => q))
          have ew1 : IntKind.i64.wrap ((W : Int) + 1) = ((W + 1 : Nat) : Int) := by rw [IntWalk.i64_in _ (by omega)]; omega
          have hD0 : ticksTo (dlgNew cs tmo tn) 0 = (dlgNew cs tmo tn, 0) := rfl
          have hmono : ∀ k : Nat, k ≤ 129 → 0 ≤ (k : Int) * tmo ∧ (k : Int) * tmo ≤ 1290000000000 := fun k hk => by
            constructor
            · exact Int.mul_nonneg (by omega) (by omega)
            · have a1 : (k : Int) * tmo ≤ k * 10000000000 := Int.mul_le_mul_of_nonneg_left (by omega) (by omega)
              omega
          have HMO := Lib.hid hmono
          clear hmono E1 hW hZ hY hw1 E hWn hLn hSS hWb hLb hR1 H1 M1
          generalize hDD : (fun k => ticksTo (dlgNew cs tmo tn) k) = T at *
          have hT : ∀ k, ticksTo (dlgNew cs tmo tn) k = T k := fun k => by rw [← hDD]
          simp only [hT] at hSB hST E2 hD0
          clear hT hDD
          generalize dlgNew cs tmo tn = D0 at *
          go_wp2_with fail
          go_loopw [9, 14, 68] (fun a b i wr => ∃ (k : Nat) (F : Nat → Prop), k ≤ W + 1 ∧ a = .int .i64 ((T k).2 : Nat) ∧ b = .int .i64 ((k : Int) * tmo) ∧ i = .int .i64 (k : Nat) ∧ Hid (R K0 wr (.pointer (some p)) F (T k).1) ∧ Hid (DlgOk (T k).1) ∧ Hid (Grew w wr) ∧ Hid (∀ b, F b → w.heap.size ≤ b)) (fun _ _ i _ => W + 1 - (intOf i).toNat)
          case atStart => exact ⟨0, F, Nat.zero_le _, by rw [hD0]; rfl, by simp, rfl, by rw [hD0]; exact hR2, by rw [hD0]; exact hOK, G5, Lib.hid hF1⟩
          case round =>
            obtain ⟨k, F2, hk, rfl, rfl, rfl, hRk, hOk, G6, hFk⟩ := hrel
            by_cases hlt : k < W + 1
            · have hmo := HMO.out k (by omega)
              have hmo2 := HMO.out (k + 1) (by omega)
              have emo : ((k + 1 : Nat) : Int) * tmo = (k : Int) * tmo + tmo := by rw [Int.natCast_add, Int.add_mul]; simp
              have HT := Lib.hid (C.tick K0 wr (.pointer (some p)) F2 (T k).1 ((k : Int) * tmo) hRk.out hOk.out (by omega))
              have hsb := hSB.out k
              have hst := Lib.hid (hST.out k)
              have hok3 := Lib.hid (hOk.out.tick ((k : Int) * tmo) (by omega))
              rw [emo] at hmo2
              have EMO := Lib.hid emo
              clear emo hRk hOk
              generalize (k : Int) * tmo = kt at *
              have hkW : (k : Int) < (W : Int) + 1 := by omega
              have hkW2 : (k : Int) < ((W + 1 : Nat) : Int) := by omega
              obtain ⟨n, hn⟩ : ∃ n, (T k).2 = n := ⟨_, rfl⟩
              rw [hn] at hsb hst ⊢
              have hnb : n ≤ 129 := by rw [hsb]; omega
              clear hsb
              have e4 : IntKind.i64.wrap ((n : Int) + 1) = ((n + 1 : Nat) : Int) := by rw [IntWalk.i64_in _ (by omega)]; omega
              have e5 : IntKind.i64.wrap (kt + tmo) = kt + tmo := IntWalk.i64_in _ (by omega)
              cases hs : ((T k).1.tick kt).2.isSome with
              | true =>
                rw [hs] at HT hst
                have hst2 : Hid (T (k + 1) = (((T k).1.tick kt).1, n + 1)) := Lib.hid hst.out
                go_wp2_with (go_at_call 10; refine HT.out.mono ?_; rintro e w4 ⟨F4, fv, rfl, hR4, hf4, hs4, ho4, hb4⟩; obtain ⟨fA, fc, rfl, _⟩ := ho4.row.form)
                have G7 := Lib.hid (hf4.grew G6.out hFk.out)
                have hF4 := Lib.hid (own_next hs4 hFk.out G6.out.size)
                go_round
                case rel => exact ⟨k + 1, F4, by omega, by rw [hst2.out]; go_num, by rw [EMO.out], by go_num, by rw [hst2.out]; exact Lib.hid hR4, by rw [hst2.out]; exact hok3, G7, hF4⟩
                case measure => simp [intOf]; omega
              | false =>
                rw [hs] at HT hst
                have hst2 : Hid (T (k + 1) = (((T k).1.tick kt).1, n)) := Lib.hid hst.out
                go_wp2_with (go_at_call 10; refine HT.out.mono ?_; rintro e w4 ⟨F4, fv, rfl, hR4, hf4, hs4, ho4, hb4⟩; obtain ⟨fA, fc, rfl, _⟩ := ho4.row.form)
                have G7 := Lib.hid (hf4.grew G6.out hFk.out)
                have hF4 := Lib.hid (own_next hs4 hFk.out G6.out.size)
                go_round
                case rel => exact ⟨k + 1, F4, by omega, by rw [hst2.out], by rw [EMO.out], by go_num, by rw [hst2.out]; exact Lib.hid hR4, by rw [hst2.out]; exact hok3, G7, hF4⟩
                case measure => simp [intOf]; omega
            · obtain rfl : k = W + 1 := by omega
              have HC := C.counts K0 wr (.pointer (some p)) F2 (T (W + 1)).1 hRk.out hOk.out
              obtain ⟨x1, x2, x3, x4, x5⟩ := E2.out
              rw [x2, x3, x4] at HC
              replace HC := Lib.hid HC
              have HFL := Lib.hid (fun w' (G : Grew wr w') => C.flying K0 w' (.pointer (some p)) F2 (T (W + 1)).1 (C.far hRk.out (Far.of_grew (F := fun _ => False) G) (fun _ _ q => q)) hOk.out)
              have N1 := Lib.hid (fun w' => C.none_tick w' 1 (by decide))
              have N2 := Lib.hid (fun w' => C.none_counts w')
              have N3 := Lib.hid (fun w' => C.none_frame w')
              have N4 := Lib.hid (fun w' => C.none_flying w')
              have N5 := Lib.hid (fun w' => C.none_copy w')
              have X5 := Lib.hid x5
              have x1' := Lib.hid x1
              rw [x1]
              have e6 : IntKind.i64.wrap ((cs.length : Int) - (Z : Int)) = (Y : Int) := by rw [IntWalk.i64_in _ (by omega)]; omega
              have e7 : (cs.length : Int) - (Z : Int) = (Y : Int) := by omega
              clear x1 x2 x3 x4 x5 E2 hSB hST
              go_upto_region 24 with (go_at_call 16; refine HC.out.mono ?_; rintro e w5 ⟨rfl, g5⟩)
              have G8 := Lib.hid (G6.out.trans g5)
              have GR := Lib.hid g5
              go_upto_region 26 with (go_at_call 10; refine (N1.out _).mono ?_; rintro e w6 ⟨nA, nc, rfl, g6⟩)
              go_upto_region 27 with (go_at_call 16; refine (N2.out _).mono ?_; rintro e w7 ⟨rfl, g7⟩)
              go_upto_region 29 with (first | (go_at_call 12; refine (N3.out _).mono ?_; rintro e w8 ⟨rfl, g8⟩) | (go_at_call 18; refine (N4.out _).mono ?_; rintro e w9 ⟨rfl, g9⟩) | (go_at_call 14; refine (N5.out _).mono ?_; rintro e w10 ⟨rfl, g10⟩))
              have G9 := Lib.hid (g6.trans (g7.trans (g8.trans (g9.trans g10))))
              have HF2 := Lib.hid (HFL.out _ (GR.out.trans G9.out))
              rw [X5.out] at HF2
              go_wp2_with (first | (go_at_call 18; refine HF2.out.mono ?_; rintro e w11 ⟨rfl, g11⟩) | (go_at_call 6; refine (HK _).out.mono ?_; rintro e w12 ⟨rfl, g12⟩))
              go_ret
              exact ⟨rfl, (G8.out.trans G9.out).trans (g11.trans g12)⟩
-- ENDS]
/- The laws of dialogues: the program's dialogue beside the document's; a list that is copied. -/
/-- The program's dialogue beside the document's: neither stands where the other one does. -/
structure Lies (R : (Nat → Prop) → World → Value → (Nat → Prop) → Dlg → Prop) (X : Nat → Prop) (K : Nat → Prop) (w wr : World) (v : Value) (F : Nat → Prop) (g : Nat) (L : Value) (d1 d2 : Dlg) : Prop where
  prog : R K wr v F d1
  doc : DlgAt X wr g L d2
  grew : Grew w wr
  own : ∀ b, F b → w.heap.size ≤ b
  kow : ∀ b, K b → w.heap.size ≤ b
  kg : ¬ K g
  kl : ∀ b, L.ownBlock = some b → ¬ K b
  gw : w.heap.size ≤ g
  lw : ∀ b, L.ownBlock = some b → w.heap.size ≤ b
  ng : ¬ F g
  nl : ∀ b, L.ownBlock = some b → ¬ F b
  hX : ∀ b, X b → b < w.heap.size
section
variable {R : (Nat → Prop) → World → Value → (Nat → Prop) → Dlg → Prop} {X K : Nat → Prop} {w wr w' : World} {v : Value} {F F' : Nat → Prop} {g : Nat} {L L' : Value} {d1 d2 d' : Dlg}
theorem Lies.progs (C : DlgCalls R) (h : Lies R X K w wr v F g L d1 d2) {v' : Value} (hR : R K w' v' F' d') (hf : Far F wr w') (hs : ∀ b, F' b → F b ∨ wr.heap.size ≤ b) : Lies R X K w w' v' F' g L d' d2 := by
  have hg := h.doc.lt
  refine ⟨hR, h.doc.far hf h.ng h.nl (fun b hb e => by have := h.hX b hb; have := h.own b e; omega), hf.grew h.grew h.own, own_next hs h.own h.grew.size, h.kow, h.kg, h.kl, h.gw, h.lw, fun e => ?_, fun b hb e => ?_, h.hX⟩
  · rcases hs g e with q | q
    · exact h.ng q
    · omega
  · rcases hs b e with q | q
    · exact h.nl b hb q
    · have := (h.doc.own b hb).1; omega
theorem Lies.docs (C : DlgCalls R) (h : Lies R X K w wr v F g L d1 d2) (hD : DlgAt X w' g L' d') (hf : Far (fun k => k = g) wr w') (hL : ∀ b, L'.ownBlock = some b → L.ownBlock = some b ∨ wr.heap.size ≤ b) : Lies R X K w w' v F g L' d1 d' := by
  have hF : ∀ b, F b ∨ K b → ¬ b = g := by
    intro b hb e
    subst e
    rcases hb with hb | hb
    · exact h.ng hb
    · exact h.kg hb
  refine ⟨C.far h.prog hf hF, hD, hf.grew h.grew (fun b e => by rw [show b = g from e]; exact h.gw), h.own, h.kow, h.kg, fun b hb e => ?_, h.gw, fun b hb => ?_, h.ng, fun b hb e => ?_, h.hX⟩
  · rcases hL b hb with q | q
    · exact h.kl b q e
    · have := C.lt h.prog b (.inr e); omega
  · rcases hL b hb with q | q
    · exact h.lw b q
    · have := h.grew.size; omega
  · rcases hL b hb with q | q
    · exact h.nl b q e
    · have := C.lt h.prog b (.inl e); omega
theorem Lies.grown (C : DlgCalls R) (h : Lies R X K w wr v F g L d1 d2) (k : Grew wr w') : Lies R X K w w' v F g L d1 d2 :=
  ⟨C.far h.prog (Far.of_grew (F := fun _ => False) k) (fun _ _ q => q), h.doc.grew k, h.grew.trans k, h.own, h.kow, h.kg, h.kl, h.gw, h.lw, h.ng, h.nl, h.hX⟩
end
/-- Commands as cells side by side. -/
def cmdCells (c : Cmd) (v : Value) : List Value := [v, .int .u8 (c.wait : Nat), .int .u8 (c.cls : Nat), .int .u8 (c.id : Nat)]
def flatK : List Cmd → List Value → List Value
  | c :: cs, v :: vs => cmdCells c v ++ flatK cs vs
  | _, _ => []
theorem flatK_append : ∀ (cs : List Cmd) (vs : List Value) (c : Cmd) (v : Value), vs.length = cs.length → flatK (cs ++ [c]) (vs ++ [v]) = flatK cs vs ++ cmdCells c v
  | [], [], c, v, _ => by simp [flatK]
  | _ :: _, [], _, _, h => by simp at h
  | [], _ :: _, _, _, h => by simp at h
  | a :: cs, b :: vs, c, v, h => by
    rw [List.cons_append, List.cons_append, flatK, flatK_append cs vs c v (by simpa using h), flatK, List.append_assoc]
theorem flatK_get : ∀ (cs : List Cmd) (vs : List Value) (i j : Nat) (c : Cmd) (v : Value), cs[i]? = some c → vs[i]? = some v → j < 4 → (flatK cs vs)[i * 4 + j]? = (cmdCells c v)[j]?
  | [], vs, i, j, c, v, h, _, _ => by simp at h
  | _ :: _, [], i, j, c, v, _, h, _ => by simp at h
  | c' :: cs, v' :: vs, 0, j, c, v, h, h2, hj => by
    simp only [List.getElem?_cons_zero, Option.some.injEq] at h h2
    subst h h2
    rw [flatK, List.getElem?_append_left (by show 0 * 4 + j < 4; omega), Nat.zero_mul, Nat.zero_add]
  | c' :: cs, v' :: vs, i + 1, j, c, v, h, h2, hj => by
    rw [flatK, List.getElem?_append_right (by show 4 ≤ (i + 1) * 4 + j; omega), show (i + 1) * 4 + j - (cmdCells c' v').length = i * 4 + j from by show (i + 1) * 4 + j - 4 = _; omega]
    exact flatK_get cs vs i j c v (by simpa using h) (by simpa using h2) hj
/-- A list of commands of the call's own, from block B on, with bytes of its own. -/
structure InAt (w : World) (B k : Nat) (v : Value) (cs : List Cmd) (vs : List Value) : Prop where
  own : w.ownsRow B 28 4 v k (flatK cs vs)
  len : vs.length = k ∧ cs.length = k
  byt : ∀ (i : Nat) (c : Cmd) (fv : Value), cs[i]? = some c → vs[i]? = some fv → Own B 5 .u8 w fv c.b
theorem infoCmd : (Try.prog.info? 28).map (fun i => (i.zero, i.size, i.bytes)) = some (some (.agg #[.slice none 0 0, .int .u8 0, .int .u8 0, .int .u8 0]), 4, 32) := by kernel_rfl
theorem InAt.cmds {w : World} {B k : Nat} {v : Value} {cs : List Cmd} {vs : List Value} (h : InAt w B k v cs vs) (hk : ∀ c ∈ cs, c.wait < 256 ∧ c.cls < 256 ∧ c.id < 256) : CmdsAt (fun b => B ≤ b ∧ b < w.heap.size) w v cs := by
  obtain ⟨_, A, c, e, hc, hr⟩ := CellsAt.of_own h.own
  refine ⟨A, c, by rw [h.len.2]; exact e, by rw [h.len.2]; exact hc, fun hn => ?_⟩
  obtain ⟨b, o, rfl, hb, hcell⟩ := hr (by rw [← h.len.2]; exact hn)
  refine ⟨b, o, rfl, fun i q hi => ?_⟩
  have hil := (List.getElem?_eq_some_iff.1 hi).1
  have hiv : i < vs.length := by rw [h.len.1, ← h.len.2]; exact hil
  have e2 := List.getElem?_eq_getElem hiv
  have hB := h.byt i q _ hi e2
  have hkq := hk q (List.mem_of_getElem? hi)
  have hg : ∀ j x, j < 4 → (cmdCells q vs[i])[j]? = some x → w.cell? ⟨b, o + i * 4 + j, none⟩ = some x := fun j x hj hx => by
    rw [Nat.add_assoc]
    exact hcell _ _ ((flatK_get cs vs i j q _ hi e2 hj).trans hx)
  exact ⟨vs[i], ⟨hb, hg 0 _ (by omega) rfl, hg 1 _ (by omega) rfl, hg 2 _ (by omega) rfl, hg 3 _ (by omega) rfl, hB.row, hkq.1, hkq.2.1, hkq.2.2⟩, fun _ b hb => hB.lt b hb⟩
theorem Own.cellD {w : World} {B : Nat} {E : TypeId} {k : IntKind} {g c n : Nat} {ns : List Nat} (h : Own B E k w (.slice (some ⟨g, 0, none⟩) n c) ns) (hn : n = ns.length) (j : Nat) (hj : j < ns.length) : w.cell? ⟨g, j, none⟩ = some (.int k (wd ns j : Nat)) ∧ w.frozen? ⟨g, j, none⟩ = false := by
  subst hn
  unfold Own at h
  refine ⟨?_, World.ownsRow.frozenAt h j⟩
  rw [World.ownsRow.cellAt h j (by omega)]
  simp [cellsOf, wd, hj]
/-- What New, may and the writes leave of it: each first byte may be written over. -/
def Writes (w : World) (B U : Nat) (v : Value) (n : Nat) : Prop :=
  U ≤ w.heap.size ∧ ∃ A c, v = .slice A n c ∧ n ≤ c ∧ (0 < n → ∃ g, A = some ⟨g, 0, none⟩ ∧ g < w.heap.size ∧ ∀ i, i < n → ∃ b m cap x, w.cell? ⟨g, i * 4, none⟩ = some (.slice (some ⟨b, 0, none⟩) m cap) ∧ 0 < m ∧ w.cell? ⟨b, 0, none⟩ = some (.int .u8 x) ∧ w.frozen? ⟨b, 0, none⟩ = false ∧ B ≤ b ∧ b < U ∧ b ≠ g)
theorem Writes.grew {w w' : World} {B U n : Nat} {v : Value} (h : Writes w B U v n) (k : Grew w w') : Writes w' B U v n := by
  obtain ⟨hU, A, c, rfl, hc, hr⟩ := h
  refine ⟨Nat.le_trans hU k.size, A, c, rfl, hc, fun hn => ?_⟩
  obtain ⟨g, rfl, hg, hf⟩ := hr hn
  refine ⟨g, rfl, Nat.lt_of_lt_of_le hg k.size, fun i hi => ?_⟩
  obtain ⟨b, m, cap, x, h1, h2, h3, h4, h5, h6, h7⟩ := hf i hi
  have hb : b < w.heap.size := by omega
  exact ⟨b, m, cap, x, (k.cell (p := ⟨g, i * 4, none⟩) hg).trans h1, h2, (k.cell (p := ⟨b, 0, none⟩) hb).trans h3, (k.frozen (p := ⟨b, 0, none⟩) hb).trans h4, h5, h6, h7⟩
theorem Writes.put {w : World} {B U n b : Nat} {v : Value} (h : Writes w B U v n) (y : Int) (hb : ∀ g c, v = .slice (some ⟨g, 0, none⟩) n c → b ≠ g) : Writes (w.setCell ⟨b, 0, none⟩ (.int .u8 y)) B U v n := by
  obtain ⟨hU, A, c, rfl, hc, hr⟩ := h
  refine ⟨by simpa [World.setCell] using hU, A, c, rfl, hc, fun hn => ?_⟩
  obtain ⟨g, rfl, hg, hf⟩ := hr hn
  refine ⟨g, rfl, by simpa [World.setCell] using hg, fun i hi => ?_⟩
  obtain ⟨b', m, cap, x, h1, h2, h3, h4, h5, h6, h7⟩ := hf i hi
  have hbg := hb g c rfl
  have n1 : (⟨b, 0, none⟩ : Addr) ≠ ⟨g, i * 4, none⟩ := fun e => hbg (by injection e)
  have f4 : (w.setCell ⟨b, 0, none⟩ (.int .u8 y)).frozen? ⟨b', 0, none⟩ = false := by simpa [go_sem] using h4
  by_cases e : b = b'
  · subst e
    exact ⟨b, m, cap, y, (World.cell?_setCell_other _ _ _ _ n1).trans h1, h2, World.cell?_setCell_same _ _ _ h3, f4, h5, h6, h7⟩
  · exact ⟨b', m, cap, x, (World.cell?_setCell_other _ _ _ _ n1).trans h1, h2, (World.cell?_setCell_other _ _ _ _ (fun q => e (by injection q))).trans h3, f4, h5, h6, h7⟩
theorem InAt.writes {w : World} {B k : Nat} {v : Value} {cs : List Cmd} {vs : List Value} (h : InAt w B k v cs vs) (hm : ∀ c ∈ cs, 0 < c.b.length) : Writes w B w.heap.size v k := by
  obtain ⟨hl, ⟨e, e0⟩ | ⟨g, cap, cur, e, hb, hh, hn, hmx, hc, ht⟩⟩ := h.own
  · exact ⟨Nat.le_refl _, none, 0, by rw [e, e0], by omega, fun q => by omega⟩
  · refine ⟨Nat.le_refl _, _, cap, e, hn, fun hp => ⟨g, rfl, (Array.getElem?_eq_some_iff.1 hh).1, fun i hi => ?_⟩⟩
    have hic : i < cs.length := by rw [h.len.2]; exact hi
    have e1 := List.getElem?_eq_getElem hic
    have hiv : i < vs.length := by rw [h.len.1]; exact hi
    have e2 := List.getElem?_eq_getElem hiv
    have hB := h.byt i _ _ e1 e2
    have hpos := hm _ (List.getElem_mem hic)
    obtain ⟨_, A, c', e3, hc3, hr⟩ := CellsAt.of_own h.own
    rw [e] at e3
    cases e3
    obtain ⟨b0, o0, e4, hlt, hcell⟩ := hr (by omega)
    cases e4
    have hcl := hcell (i * 4 + 0) _ ((flatK_get cs vs i 0 _ _ e1 e2 (by omega)).trans rfl)
    rw [Nat.zero_add, Nat.add_zero] at hcl
    have hf2 : vs[i] ≠ .slice none 0 0 := fun q => by
      rw [q] at hB
      obtain ⟨A, c, e5, hc5, _⟩ := hB.row
      simp only [Value.slice.injEq] at e5
      omega
    obtain ⟨b, cc, e5, hb5, hlt5, hm5⟩ := hB.head hf2
    rw [e5] at hcl hB
    obtain ⟨x1, x2⟩ := hB.cellD rfl 0 hpos
    refine ⟨b, _, cc, _, hcl, hpos, x1, x2, hb5, hlt5, fun q => ?_⟩
    subst q
    rcases hB.2 with ⟨q, _⟩ | ⟨b', cap', cur', q, hb', hh', _⟩
    · cases q
    · cases q
      rw [hh] at hh'
      simp at hh'
end Go.Proofs.Ytcdmbnbanopioaa
