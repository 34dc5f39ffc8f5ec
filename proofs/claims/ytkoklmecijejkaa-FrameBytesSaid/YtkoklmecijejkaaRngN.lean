/-
  The program's ring: bytes laid behind; what all its calls tell.
-/
import Derived.Test.YtkoklmecijejkaaRngZ
import Derived.Deep.CutBlock
namespace Go.Proofs.Ytkoklmecijejkaa
open Go.RowKit
set_option linter.unusedVariables false

theorem mod_once (a s : Nat) (h : a < 2 * s) : a % s = if a < s then a else a - s := by
  split
  · exact Nat.mod_eq_of_lt (by assumption)
  · rw [Nat.mod_eq_sub_mod (by omega), Nat.mod_eq_of_lt (by omega)]
theorem place_ne {f s i j : Nat} (hf : f < s) (hi : i < s) (hj : j < s) (h : i ≠ j) : (f + i) % s ≠ (f + j) % s := by
  rw [mod_once _ _ (by omega), mod_once _ _ (by omega)]
  split <;> split <;> omega
theorem bytes_snoc {ns : List Nat} {x : Nat} (h : Bytes ns) (hx : x < 256) : Bytes (ns ++ [x]) := fun i => by
  rw [wd_snoc]
  split
  · exact h i
  · split <;> omega
theorem bytes_drop {ns : List Nat} (h : Bytes ns) (n : Nat) : Bytes (ns.drop n) := fun i => by rw [wd_drop]; exact h _

/-- One byte more is laid behind the others. -/
theorem progAt_lay {w : World} {g size first held lost : Nat} {ns : List Nat} (h : ProgAt w g size first held ns lost) (hl : ns.length < size) (x : Nat) (hx : x < 256) :
    ProgAt (w.setCell ⟨g, (first + ns.length) % size, none⟩ (.int .u8 (x : Nat))) g size first held (ns ++ [x]) lost := by
  have hs := h.hs
  have hlt : (first + ns.length) % size < size := Nat.mod_lt _ (by omega)
  have ho : ∀ j, 4096 ≤ j → (w.setCell ⟨g, (first + ns.length) % size, none⟩ (.int .u8 (x : Nat))).cell? ⟨g, j, none⟩ = w.cell? ⟨g, j, none⟩ := fun j hj => World.cell?_setCell_other _ _ _ _ (addr_ne (by omega))
  obtain ⟨u, hu⟩ := h.there ((first + ns.length) % size) (by omega)
  refine ⟨by simpa [World.setCell] using h.lt, hs, h.hf, by simp; omega, h.hh, bytes_snoc h.hb hx, (ho _ (by omega)).trans h.c1, (ho _ (by omega)).trans h.c2, (ho _ (by omega)).trans h.c3, (ho _ (by omega)).trans h.c4, fun i hi => ?_, ?_⟩
  · rw [List.length_append, List.length_singleton] at hi
    rw [wd_snoc]
    by_cases e : i = ns.length
    · subst e
      rw [if_neg (by omega), if_pos rfl]
      exact World.cell?_setCell_same _ _ _ hu
    · rw [if_pos (by omega), World.cell?_setCell_other _ _ _ _ (addr_ne (place_ne h.hf hl (by omega) (Ne.symm e)))]
      exact h.cs i (by omega)
  · obtain ⟨C, t, a, b, c⟩ := h.wh
    exact whole_set a b c _ _ rfl
/-- How many it holds, and how many were lost, are written behind the bytes. -/
theorem progAt_end {w : World} {g size first held lost : Nat} {ns : List Nat} (h : ProgAt w g size first held ns lost) (x y : Int) (lost' : Nat) (hx : x = (ns.length : Nat)) (hy : y = (lost' : Nat)) :
    ProgAt ((w.setCell ⟨g, 4098, none⟩ (.int .i64 x)).setCell ⟨g, 4099, none⟩ (.int .i64 y)) g size first ns.length ns lost' := by
  subst hx hy
  have ho : ∀ j (u v : Value), j ≠ 4098 → j ≠ 4099 → ((w.setCell ⟨g, 4098, none⟩ u).setCell ⟨g, 4099, none⟩ v).cell? ⟨g, j, none⟩ = w.cell? ⟨g, j, none⟩ := fun j u v h1 h2 => by
    rw [World.cell?_setCell_other _ _ _ _ (addr_ne (Ne.symm h2)), World.cell?_setCell_other _ _ _ _ (addr_ne (Ne.symm h1))]
  have hs := h.hs
  refine ⟨by simpa [World.setCell] using h.lt, hs, h.hf, h.hn, h.hn, h.hb, ?_, ?_, ?_, ?_, fun i hi => ?_, ?_⟩
  · rw [ho _ _ _ (by omega) (by omega)]; exact h.c1
  · rw [ho _ _ _ (by omega) (by omega)]; exact h.c2
  · rw [World.cell?_setCell_other _ _ _ _ (addr_ne (by omega))]; exact World.cell?_setCell_same _ _ _ h.c3
  · exact World.cell?_setCell_same _ _ _ (by rw [World.cell?_setCell_other _ _ _ _ (addr_ne (by omega))]; exact h.c4)
  · have hl2 : (first + i) % size < size := Nat.mod_lt _ (by omega)
    rw [ho _ _ _ (by omega) (by omega)]
    exact h.cs i hi
  · obtain ⟨C, t, a, b, c⟩ := h.wh
    obtain ⟨C', t', a', b', c'⟩ := whole_set a b c 4098 (.int .i64 (ns.length : Nat)) rfl
    exact whole_set a' b' c' 4099 _ rfl

theorem put_list (size : Nat) (ns xs : List Nat) (h : ns.length ≤ size) : ns.drop (min (ns.length + xs.length - size) ns.length) ++ xs.drop (xs.length - size) = ringPut size ns xs := by
  unfold ringPut ringOver
  rw [List.drop_append]
  by_cases hc : ns.length + xs.length - size ≤ ns.length
  · rw [Nat.min_eq_left hc, show xs.length - size = ns.length + xs.length - size - ns.length by omega]
  · rw [Nat.min_eq_right (by omega), List.drop_of_length_le (Nat.le_refl _), List.drop_of_length_le (i := ns.length + xs.length - size) (by omega), show xs.length - size = ns.length + xs.length - size - ns.length by omega]
theorem Row.farE {F : Nat → Prop} {w w' : World} {k : IntKind} {v : Value} {ns : List Nat} (h : Row k w v ns) (g : Far F w w') (hF : 0 < ns.length → ∀ b, v.ownBlock = some b → ¬ F b) : Row k w' v ns := by
  by_cases hn : 0 < ns.length
  · exact h.far g (hF hn)
  · obtain ⟨A, cap, rfl, hc, hr⟩ := h
    exact ⟨A, cap, rfl, hc, fun h => absurd h hn⟩
theorem take_one (ms : List Nat) (j : Nat) (hj : j < ms.length) : ms.take (j + 1) = ms.take j ++ [wd ms j] := by rw [List.take_add_one, wd_lt hj, List.getElem?_eq_getElem hj]; rfl

/-- What is left of a row that is cut at its head, as the walk meets it. -/
def CutRow (w : World) (A : Option Addr) (m c : Nat) (xs : List Nat) (k : Nat) (bw : Value) : Prop :=
  ∃ A' c', bw = .slice A' (m - k) c' ∧ Row .u8 w bw (xs.drop k) ∧ (∀ j, bw.ownBlock = some j → (Value.slice A m c).ownBlock = some j)
theorem cutRow_none {w : World} {A : Option Addr} {m c : Nat} {xs : List Nat} (h : Row .u8 w (.slice A m c) xs) (k : Nat) (hk : k = 0) (m' c' : Nat) (hm : m' = m) (hc : c' = c) : CutRow w A m c xs k (.slice A m' c') := by
  subst hk hm hc
  exact ⟨A, c', rfl, by rw [List.drop_zero]; exact h, fun j hj => hj⟩
theorem cutRow_map {w : World} {A : Option Addr} {m c : Nat} {xs : List Nat} (h : Row .u8 w (.slice A m c) xs) (k : Nat) (hk : k ≤ xs.length) (hne : c ≠ k) : CutRow w A m c xs k (.slice (A.map fun x => x.add k) (m - k) (c - k)) :=
  ⟨_, _, rfl, h.cutO k hk hne, fun j hj => by rw [ownBlock_map A k (m - k) (c - k) m c] at hj; exact hj⟩

def PutOf (g size : Nat) (ns xs : List Nat) (lost : Nat) (w : World) (e : Ending) (w' : World) : Prop :=
  ∃ first', e = .returned (.int .i64 (ringOver size ns xs : Nat)) ∧ ProgAt w' g size first' (ringPut size ns xs).length (ringPut size ns xs) (lost + ringOver size ns xs) ∧ Far (fun k => k = g) w w'

set_option maxRecDepth 100000 in
set_option maxHeartbeats 2000000 in
theorem ring_Put (w : World) (g size first : Nat) (ns : List Nat) (lost : Nat) (bv : Value) (xs : List Nat) (h : ProgAt w g size first ns.length ns lost) (hR : Row .u8 w bv xs) (hB : Bytes xs) (hx : xs.length ≤ 20000) (hl : lost ≤ 1000000000) (hne : 0 < xs.length → ∀ k, bv.ownBlock = some k → k ≠ g) :
    Calls Try.prog 9 #[.pointer (some ⟨g, 0, none⟩), bv] w (PutOf g size ns xs lost w) := by
  have H := Lib.hid (ring_isMade w g size first ns.length ns lost h)
  have hs := h.hs
  have hN := h.hn
  have HH := fun w' (k : Grew w w') => Lib.hid (h.grew k)
  have HD := fun w' (k : Grew w w') => Lib.hid (ring_Drop w' g size first ns lost (ringOver size ns xs : Nat) (h.grew k) (by unfold ringOver; omega))
  have HLI := Lib.hid (put_list size ns xs hN)
  obtain ⟨A, c, rfl, hc⟩ := hR.form
  have HR := Lib.hid hR
  have HB := Lib.hid (bytes_drop hB (xs.length - size))
  have HNE := Lib.hid hne
  obtain ⟨ov, hov⟩ : ∃ ov, ringOver size ns xs = ov := ⟨_, rfl⟩
  have hov2 : ns.length + xs.length - size = ov := hov
  have c1 := h.c1
  have c3 := h.c3
  clear h hR hB hne
  unfold PutOf
  rw [hov] at HD ⊢
  rw [hov2] at HLI
  clear hov
  go_enter Try.func9, Try.ntmps9
  go_wp2_with fail
  refine H.out.mono ?_
  rintro e w1 ⟨rfl, g1⟩
  have P1 := HH _ g1
  have d1 := P1.out.c1
  have d3 := P1.out.c3
  clear P1 c1 c3 H
  go_wp2_with fail
  go_region
  have E1 : (if (size : Int) - ns.length < xs.length then (xs.length : Int) - (size - ns.length) else 0) = (ov : Nat) := by split <;> omega
  rw [E1]
  have G := g1.drew
  clear E1 g1 d1 d3
  have d1 := (HH _ G).out.c1
  generalize w1.drew = w2 at *
  go_upto_region 4 with fail
  go_cut [1] (fun bw wx => CutRow w A xs.length c xs (xs.length - size) bw ∧ Grew w wx)
  case first =>
    go_wp2_with fail
    all_goals go_meet
    all_goals refine ⟨?_, G⟩
    all_goals first | (exact cutRow_map HR.out _ (by omega) (by omega)) | (exact cutRow_none HR.out _ (by omega) _ _ rfl (by rw [‹c = _›, if_neg (by omega)]; rfl)) | (exact cutRow_none HR.out _ (by omega) _ _ rfl rfl)
  case rest =>
    obtain ⟨⟨A', c', rfl, hR, hO⟩, g2⟩ := hcut
    obtain ⟨M, hM⟩ : ∃ M, (xs.drop (xs.length - size)).length = M := ⟨_, rfl⟩
    have hM2 : xs.length - (xs.length - size) = M := by rw [← hM, List.length_drop]
    rw [hM2]
    rw [hM2] at hR hO
    obtain ⟨N1, hN1⟩ : ∃ N1, (ns.drop (min ov ns.length)).length = N1 := ⟨_, rfl⟩
    have hN2 : ns.length - min ov ns.length = N1 := by rw [← hN1, List.length_drop]
    have hgM : 0 < M → ∀ j, (Value.slice A' M c').ownBlock = some j → j ≠ g := fun h0 j hj => HNE.out (by omega) j (hO j hj)
    have HG := Lib.hid hgM
    clear hgM hO HNE HR
    have HR := Lib.hid hR
    clear hR d1 G
    go_wp2_with fail
    refine (HD _ g2).out.mono ?_
    rintro e w3 ⟨f', rfl, hP, hF⟩
    simp only [Int.toNat_natCast, hN1] at hP
    have hf' := hP.hf
    have HP := Lib.hid hP
    have hR3 := Lib.hid ((HR.out.grew g2).farE hF (fun h0 j hj e => HG.out (by omega) j hj e))
    have HF := Lib.hid ((Far.of_grew g2).trans hF)
    have hpl := Lib.hid (ring_places w3 g size f' N1 (ns.drop (min ov ns.length)) lost hP)
    clear hP hF HD HH HR g2
    go_wp2_with fail
    refine hpl.out.mono ?_
    rintro e w4 ⟨a, b, rfl, ha, hb, q1, q2, g4⟩
    have hP4 := Lib.hid (HP.out.grew g4)
    have hR4 := Lib.hid (hR3.out.grew g4)
    have hF4 := Lib.hid (HF.out.trans (Far.of_grew g4))
    have hA := Lib.hid q1
    have hB4 := Lib.hid q2
    have hgl := HP.out.lt
    have hne : a ≠ g ∧ b ≠ g := ⟨by omega, by omega⟩
    generalize ns.drop (min ov ns.length) = ns1 at *
    generalize xs.drop (xs.length - size) = ms at *
    have hMs : M ≤ size := by omega
    have hNM : N1 + M ≤ size := by omega
    clear HP hR3 HF hpl ha hb q1 q2 g4 hM2 hN2
    go_wp2_with fail
    go_loopw [42] (fun i wr => ∃ j : Nat, j ≤ M ∧ i = .int .i64 (j : Nat) ∧ Hid (ProgAt wr g size f' N1 (ns1 ++ ms.take j) lost) ∧ Hid (wr.cell? ⟨a, 0, none⟩ = some (.int .i64 f')) ∧ Hid (wr.cell? ⟨b, 0, none⟩ = some (.int .i64 size)) ∧ Hid (Row .u8 wr (.slice A' M c') ms) ∧ Hid (Far (fun k => k = g) w wr)) (fun i _ => M - (intOf i).toNat)
    case atStart => exact ⟨0, by omega, rfl, by rw [List.take_zero, List.append_nil]; exact hP4, hA, hB4, hR4, hF4⟩
    case round =>
      clear hP4 hA hB4 hR4 hF4
      obtain ⟨j, hj, rfl, hP, hA, hB4, hR, hF⟩ := hrel
      by_cases hlt : j < M
      · obtain ⟨Ax, cx, e0, hcx, hr⟩ := hR.out
        simp only [Value.slice.injEq] at e0
        obtain ⟨rfl, -, rfl⟩ := e0
        obtain ⟨rb, ro, rfl, hrb, hcell⟩ := hr (by omega)
        have y0 := hcell j (by omega)
        have hx256 := HB.out j
        have hrg : rb ≠ g := HG.out (by omega) rb rfl
        have hlen : (ns1 ++ ms.take j).length = N1 + j := by rw [List.length_append, List.length_take, hN1, hM]; omega
        have hmm : (f' + (N1 + j)) % size < size := Nat.mod_lt _ (by omega)
        obtain ⟨u0, t0⟩ := hP.out.there ((f' + (N1 + j)) % size) (by omega)
        have f0 := hP.out.frozen ((f' + (N1 + j)) % size)
        have hgw := hP.out.lt
        have hal : a < wr.heap.size := World.block_lt_of_cell? wr ⟨a, 0, none⟩ hA.out
        have hbl : b < wr.heap.size := World.block_lt_of_cell? wr ⟨b, 0, none⟩ hB4.out
        have KS : ∀ w', Grew wr w' → Hid (w'.cell? ⟨g, 4098, none⟩ = some (.int .i64 (N1 : Nat))) := fun w' q => Lib.hid (hP.out.grew q).c3
        have KT : ∀ w', Grew wr w' → Hid ((w'.setCell ⟨g, (f' + (N1 + j)) % size, none⟩ (.int .u8 (wd ms j : Nat))).cell? ⟨g, 4098, none⟩ = some (.int .i64 (N1 : Nat))) := fun w' q => by
          show _ = _
          rw [World.cell?_setCell_other _ _ _ _ (addr_ne (by omega))]
          exact (KS w' q).out
        have KX : ∀ w', Grew wr w' → Hid (w'.cell? ⟨g, (f' + (N1 + j)) % size, none⟩ = some u0 ∧ w'.frozen? ⟨g, (f' + (N1 + j)) % size, none⟩ = false) := fun w' q =>
          Lib.hid ⟨(q.cell (p := ⟨g, _, none⟩) hgw).trans t0, (q.frozen (p := ⟨g, _, none⟩) hgw).trans f0⟩
        have HSET : ∀ w', Grew wr w' → Hid (Hid (ProgAt (w'.setCell ⟨g, (f' + (N1 + j)) % size, none⟩ (.int .u8 (wd ms j : Nat))) g size f' N1 (ns1 ++ ms.take (j + 1)) lost) ∧ Hid ((w'.setCell ⟨g, (f' + (N1 + j)) % size, none⟩ (.int .u8 (wd ms j : Nat))).cell? ⟨a, 0, none⟩ = some (.int .i64 f')) ∧ Hid ((w'.setCell ⟨g, (f' + (N1 + j)) % size, none⟩ (.int .u8 (wd ms j : Nat))).cell? ⟨b, 0, none⟩ = some (.int .i64 size)) ∧ Hid (Row .u8 (w'.setCell ⟨g, (f' + (N1 + j)) % size, none⟩ (.int .u8 (wd ms j : Nat))) (.slice (some ⟨rb, ro, none⟩) M c') ms) ∧ Hid (Far (fun k => k = g) w (w'.setCell ⟨g, (f' + (N1 + j)) % size, none⟩ (.int .u8 (wd ms j : Nat))))) := fun w' q => by
          refine ⟨?_, ?_, ?_, ?_, Far.setCell (F := fun k => k = g) (hF.out.trans (Far.of_grew q)) (p := ⟨g, _, none⟩) rfl _⟩
          · have := progAt_lay (hP.out.grew q) (by omega) (wd ms j) hx256
            rw [hlen, List.append_assoc, ← take_one ms j (by omega)] at this
            exact this
          · show _ = _
            rw [World.cell?_setCell_other _ _ _ _ (fun e => hne.1 (by injection e with e1; exact e1.symm))]
            exact (q.cell (p := ⟨a, 0, none⟩) hal).trans hA.out
          · show _ = _
            rw [World.cell?_setCell_other _ _ _ _ (fun e => hne.2 (by injection e with e1; exact e1.symm))]
            exact (q.cell (p := ⟨b, 0, none⟩) hbl).trans hB4.out
          · exact (hR.out.grew q).far (Far.one w' ⟨g, _, none⟩ _) (fun k hk e => by cases hk; exact hrg e)
        have HQ1 : ∀ w', Grew wr w' → Hid (Calls Try.prog 36 #[.int .i64 (IntKind.i64.wrap ((N1 : Int) + j)), .pointer (some ⟨a, 0, none⟩), .pointer (some ⟨b, 0, none⟩)] w' fun e w'' => e = .returned (.int .i64 (((f' + (N1 + j)) % size : Nat) : Int)) ∧ Grew w' w'') := fun w' q => by
          have := ring_places1 w' f' size (N1 + j) ⟨a, 0, none⟩ ⟨b, 0, none⟩ ((q.cell (p := ⟨a, 0, none⟩) hal).trans hA.out) ((q.cell (p := ⟨b, 0, none⟩) hbl).trans hB4.out) (by omega) (by omega) hs
          rw [show IntKind.i64.wrap ((N1 : Int) + j) = ((N1 + j : Nat) : Int) by rw [IntWalk.i64_in _ (by omega)]; omega]
          exact this
        clear hP hA hB4 hR hF t0 f0 hgw hal hbl hr hcell hcx HB HG HLI hgl hov2 hx hl hrg hx256 hlen hne
        generalize (f' + (N1 + j)) % size = mm at *
        generalize wd ms j = x at *
        have m0 : (0 : Int) ≤ mm := by omega
        have m1 : (mm : Int) < 4096 := by omega
        have k0 : (0 : Int) ≤ j := by omega
        have k1 : (j : Int) < M := by omega
        have G : Grew wr wr.drew := (Grew.refl wr).drew
        go_wp2_with fail
        go_region_held3 (fun w' => w'.cell? ⟨g, 4098, none⟩ = some (.int .i64 (N1 : Nat))) (first | exact (KS _ G).out | exact (KT _ G).out) ((go_at_call 36; refine (HQ1 _ G).out.mono ?_; rintro e w5 ⟨rfl, g5⟩; replace G := G.trans g5; clear g5; obtain ⟨t1, f1⟩ := (KX _ G).out))
        go_wp2_with fail
        obtain ⟨s1, s2, s3, s4, s5⟩ := (HSET _ G).out
        go_roundw
        case rel => exact ⟨j + 1, by omega, by simp, s1, s2, s3, s4, s5⟩
        case measure => simp [intOf]; omega
      · obtain rfl : j = M := by omega
        have d3 := hP.out.c3
        have d4 := hP.out.c4
        have e3 := hP.out.frozen 4098
        have e4 := hP.out.frozen 4099
        have hT : Hid (ns1 ++ ms.take j = ringPut size ns xs) := by show _ = _; rw [← HLI.out, ← hM, List.take_length]
        have hTl : (ringPut size ns xs).length = N1 + j := by rw [← HLI.out, List.length_append, hN1, hM]
        rw [hT.out] at hP
        have HE := fun x y hx hy => Lib.hid (progAt_end hP.out x y (lost + ov) hx hy)
        rw [hTl] at HE
        clear hP hA hB4 hR HLI HB HG
        go_wp2_with fail
        go_ret
        refine ⟨f', rfl, ?_, ?_⟩
        · rw [hTl]; exact (HE _ _ (by omega) (by omega)).out
        · exact Far.setCell (F := fun k => k = g) (Far.setCell (F := fun k => k = g) hF.out (p := ⟨g, 4098, none⟩) rfl _) (p := ⟨g, 4099, none⟩) rfl _
end Go.Proofs.Ytkoklmecijejkaa
