/-
  The law of sentences: NmeaTalkers' walk.
-/
import Derived.Test.YtajgicliepenkaaDoorNmlB
import Derived.Deep.DeepCutAuto
namespace Go.Proofs.YtajgicliepenkaaDoor
open Go.RowKit
set_option linter.unusedVariables false

theorem run_storeCells_at {P : Program} (w : World) (b : Nat) (t : TypeId) (c c' : Array Value) (hb : w.heap[b]? = some (.cells c t)) (hi : (P.info? t).map (·.size) = some c'.size) (ho : c.size = c'.size) (h1 : c'.all (·.oneCell') = true) :
    (storeCells ⟨b, 0, none⟩ c'.toList 0).run P w = .ok () (w.setRow b c') := by
  have := run_storeVar_row (P := P) w b t t c c' hb hi ho h1
  cases hq : P.info? t with
  | none => simp [hq] at hi
  | some i =>
    have hs : c'.size = i.size := by simp [hq] at hi; omega
    simpa [storeVar, sizeOf, typeInfo, hq, Value.cells, hs] using this
theorem bytes_pair (s : ByteArray) (a b : Nat) (h : 2 ≤ s.size) : bytesOf ((⟨#[a.toUInt8, b.toUInt8]⟩ : ByteArray) ++ s.extract 2 s.size) = a.toUInt8 :: b.toUInt8 :: (bytesOf s).drop 2 := by
  rw [bytesOf_append]
  unfold bytesOf
  rw [ByteArray.data_extract, Array.toList_extract, List.extract_eq_take_drop]
  have : s.data.toList.length = s.size := by rw [Array.length_toList]; rfl
  rw [List.take_of_length_le (by rw [List.length_drop]; omega)]
  rfl
theorem capital_of (a : Nat) : capital ((65 + a % 26 : Nat).toUInt8).toNat = true := by
  have : (65 + a % 26 : Nat).toUInt8.toNat = 65 + a % 26 := by
    show (65 + a % 26) % 256 = _
    omega
  rw [this]
  unfold capital
  exact decide_eq_true (by omega)
theorem bytes_commas (s : ByteArray) : bytesOf (s ++ ⟨(Lib.repeatL [44] 20).toArray⟩) = bytesOf s ++ List.replicate 20 44 := by
  rw [bytesOf_append]
  rfl
theorem st_new (W : World) (C : Array Value) (hi : (Tryd.prog.info? 26).map (·.size) = some 25) (hC : C.size = 25) (h1 : C.all (·.oneCell') = true) :
    (storeCells ⟨W.heap.size, 0, none⟩ C.toList 0).run Tryd.prog (W.alloc (.cells #[.int .u8 0, .bool false, .bool false, .bool false, .bool false, .int .i64 0, .int .i64 0, .int .i64 0, .bool false, .int .i64 0, .int .i64 0, .int .i64 0, .int .i64 0, .int .i64 0, .int .i64 0, .int .i64 0, .int .i64 0, .int .i64 0, .int .i64 0, .int .i64 0, .int .i64 0, .int .i64 0, .int .i64 0, .int .i64 0, .int .i64 0] 26)) = .ok () (W.alloc (.cells C 26)) :=
  run_storeCells_new W 26 _ C (by rw [hi, hC]) (by rw [hC]; rfl) h1
theorem st_at (W : World) (b : Nat) (C : Array Value) (hb : W.heap[b]? = some (.cells #[.int .u8 0, .bool false, .bool false, .bool false, .bool false, .int .i64 0, .int .i64 0, .int .i64 0, .bool false, .int .i64 0, .int .i64 0, .int .i64 0, .int .i64 0, .int .i64 0, .int .i64 0, .int .i64 0, .int .i64 0, .int .i64 0, .int .i64 0, .int .i64 0, .int .i64 0, .int .i64 0, .int .i64 0, .int .i64 0, .int .i64 0] 26)) (hi : (Tryd.prog.info? 26).map (·.size) = some 25) (hC : C.size = 25) (h1 : C.all (·.oneCell') = true) :
    (storeCells ⟨b, 0, none⟩ C.toList 0).run Tryd.prog W = .ok () (W.setRow b C) :=
  run_storeCells_at W b 26 _ C hb (by rw [hi, hC]) (by rw [hC]; rfl) h1
theorem two_text (W : World) (b a' b' : Nat) (h : W.heap[b]? = some (.cells #[.int .u8 (a' : Nat), .int .u8 (b' : Nat)] 5)) : (convert 30 9 (.slice (some ⟨b, 0, none⟩) 2 2)).run Tryd.prog W = .ok (.string ⟨#[a'.toUInt8, b'.toUInt8]⟩) W := by
  have r : Row .u8 W (.slice (some ⟨b, 0, none⟩) 2 2) [a', b'] := ⟨some ⟨b, 0, none⟩, 2, rfl, Nat.le_refl _, fun _ => ⟨b, 0, rfl, (Array.getElem?_eq_some_iff.1 h).1, fun i hi => by
    rcases (show i = 0 ∨ i = 1 by simp at hi; omega) with rfl | rfl
    · simp [World.cell?, h]; rfl
    · simp [World.cell?, h]; rfl⟩⟩
  exact Row.string W r 30 5 Tryd.underlying30 Tryd.underlying5 9 Tryd.underlying9
theorem size_commas : (⟨(Lib.repeatL [44] 20).toArray⟩ : ByteArray).size = 20 := rfl
set_option maxHeartbeats 4000000 in
set_option maxRecDepth 100000 in
theorem law_talkers (s : ByteArray) (a b : Nat) (ha : a < 256) (hb : b < 256) (w : World) : Calls Tryd.prog 3 #[.string s, .int .u8 (a : Nat), .int .u8 (b : Nat)] w fun e w' => e = .returned (.bool true) ∧ Grew w w' := by
  have HK := fun w => Lib.hid (known_true10 w)
  by_cases h2 : s.size ≤ 200
  · have c2 : ¬ (200 : Int) < s.size := by omega
    have HP : ∀ w, Hid _ := fun w => Lib.hid (prog_Parse s w (by omega))
    unfold ParseT Told.value at HP
    have HZ := Lib.hid fix_zero.1
    have HI := Lib.hid fix_zero.2
    have HB := Lib.hid fix_built0
    obtain ⟨e, he⟩ : ∃ e, (parseOf s).2 = e := ⟨_, rfl⟩
    obtain ⟨F, hF⟩ : ∃ F, (parseOf s).1 = F := ⟨_, rfl⟩
    rw [he, hF] at HP
    have n1 := Lib.hid (told_size F)
    have o1 := Lib.hid (told_one F)
    have nz := Lib.hid (told_size {})
    have oz := Lib.hid (told_one {})
    by_cases h0 : e = 0
    · subst h0
      obtain ⟨a', ea⟩ : ∃ x, 65 + a % 26 = x := ⟨_, rfl⟩
      obtain ⟨b', eb⟩ : ∃ x, 65 + b % 26 = x := ⟨_, rfl⟩
      have ca := capital_of a
      have cb := capital_of b
      rw [ea] at ca
      rw [eb] at cb
      obtain ⟨R20, hR20⟩ : ∃ R : ByteArray, (⟨(Lib.repeatL [44] 20).toArray⟩ : ByteArray) = R := ⟨_, rfl⟩
      have hRs : R20.size = 20 := by rw [← hR20]; exact size_commas
      have hcomma : parseOf (s ++ R20) = ({}, 3) := parse_commas s (s ++ R20) he (by rw [← hR20]; exact bytes_commas s)
      obtain ⟨hs2, htalk⟩ : 2 ≤ s.size ∧ parseOf ((⟨#[a'.toUInt8, b'.toUInt8]⟩ : ByteArray) ++ s.extract 2 s.size) = parseOf s := by
        have h2s : 2 ≤ s.size := (parse_talker s (⟨(a'.toUInt8 :: b'.toUInt8 :: (bytesOf s).drop 2).toArray⟩) _ _ he ca cb rfl).1
        exact parse_talker s _ _ _ he ca cb (bytes_pair s a' b' h2s)
      have pF : parseOf s = (F, 0) := by rw [← hF, ← he]
      rw [pF] at htalk
      obtain ⟨T, hT⟩ : ∃ T : ByteArray, (⟨#[a'.toUInt8, b'.toUInt8]⟩ : ByteArray) ++ s.extract 2 s.size = T := ⟨_, rfl⟩
      have hTs : T.size ≤ 1000 := by rw [← hT, ByteArray.size_append, size_extract, show (⟨#[a'.toUInt8, b'.toUInt8]⟩ : ByteArray).size = 2 from rfl]; omega
      have HT : ∀ w, Hid _ := fun w => Lib.hid (prog_Parse T w hTs)
      have hcs : (s ++ R20).size ≤ 1000 := by rw [ByteArray.size_append]; omega
      have HCm := fun w => Lib.hid (prog_Parse (s ++ R20) w hcs)
      unfold ParseT Told.value at HT HCm
      rw [← hT, htalk] at HT
      rw [hcomma] at HCm
      have HR : ∀ w, Hid _ := fun w => Lib.hid (Tryd.strings_Repeat ⟨#[44]⟩ 20 w (by decide) (by decide))
      rw [show (⟨#[44]⟩ : ByteArray).data.toList = [44] from rfl] at HR
      have HQ := fun w => eql_fix F w
      obtain ⟨Z, hz⟩ : ∃ C, Told.cells {} = C := ⟨_, rfl⟩
      obtain ⟨C, hC⟩ : ∃ C, Told.cells F = C := ⟨_, rfl⟩
      rw [hz] at HZ HB nz oz HCm
      rw [hC] at HP HT HQ n1 o1
      have HZZ := Lib.hid hz
      rw [hR20] at HR
      have r1 : (a : Int).tmod 26 = ((a % 26 : Nat) : Int) := rfl
      have r2 : (b : Int).tmod 26 = ((b % 26 : Nat) : Int) := rfl
      have r3 : IntKind.u8.wrap (65 + ((a % 26 : Nat) : Int)) = (a' : Nat) := by rw [← ea]; show (65 + ((a % 26 : Nat) : Int)) % 256 = _; omega
      have r4 : IntKind.u8.wrap (65 + ((b % 26 : Nat) : Int)) = (b' : Nat) := by rw [← eb]; show (65 + ((b % 26 : Nat) : Int)) % 256 = _; omega
      have s2 : (2 : Int) ≤ s.size := by omega
      have HTT := Lib.hid hT
      have Q1 : Hid (65 + (a : Int) % 26 = (a' : Nat)) := by show _ = _; rw [← ea]; omega
      have Q2 : Hid (65 + (b : Int) % 26 = (b' : Nat)) := by show _ = _; rw [← eb]; omega
      have la : a' < 256 := by omega
      have lb : b' < 256 := by omega
      have kcat : ¬ 9223372036854775807 < s.size + R20.size := by omega
      clear hz hC hR20 hRs hcs ea eb ca cb hcomma htalk pF hTs he hF h2 hs2 hT
      go_enter Tryd.func3, Tryd.ntmps3
      go_upto_region 3 with fail
      go_upto_region 6 with (first | (go_at_call 5; refine (HP _).out.mono ?_; rintro e w1 ⟨rfl, g1⟩) | (refine wpList_alloc_as rfl 26 rfl Z HZ.out ?_) | (refine wpList_store_new rfl 26 _ _ rfl w1 C Z 26 rfl rfl rfl (by rw [HI.out, n1.out]) (by rw [nz.out, n1.out]) o1.out ?_))
      obtain ⟨V1, hV1, k1, s1, c1⟩ := newO w1 (.cells C 26)
      rw [hV1]
      have G1 := Lib.hid (g1.trans k1)
      have l1 : w1.heap.size < V1.heap.size := by omega
      clear hV1 s1 g1 k1
      go_upto_region 7 with fail
      rw [Q1.out, Q2.out]
      have b1 : (V1.alloc (.cells #[.int .u8 (a' : Nat), .int .u8 (b' : Nat)] 5)).drew.heap[V1.heap.size]? = some (.cells #[.int .u8 (a' : Nat), .int .u8 (b' : Nat)] 5) := heap_alloc_new V1 _
      have b2 : ((V1.alloc (.cells #[.int .u8 (a' : Nat), .int .u8 (b' : Nat)] 5)).alloc (.cells #[.int .u8 0, .bool false, .bool false, .bool false, .bool false, .int .i64 0, .int .i64 0, .int .i64 0, .bool false, .int .i64 0, .int .i64 0, .int .i64 0, .int .i64 0, .int .i64 0, .int .i64 0, .int .i64 0, .int .i64 0, .int .i64 0, .int .i64 0, .int .i64 0, .int .i64 0, .int .i64 0, .int .i64 0, .int .i64 0, .int .i64 0] 26)).drew.heap[V1.heap.size]? = some (.cells #[.int .u8 (a' : Nat), .int .u8 (b' : Nat)] 5) := (((Grew.refl (V1.alloc (.cells #[.int .u8 (a' : Nat), .int .u8 (b' : Nat)] 5))).alloc (.cells #[.int .u8 0, .bool false, .bool false, .bool false, .bool false, .int .i64 0, .int .i64 0, .int .i64 0, .bool false, .int .i64 0, .int .i64 0, .int .i64 0, .int .i64 0, .int .i64 0, .int .i64 0, .int .i64 0, .int .i64 0, .int .i64 0, .int .i64 0, .int .i64 0, .int .i64 0, .int .i64 0, .int .i64 0, .int .i64 0, .int .i64 0] 26)).below.block _ (by rw [World.size_alloc]; omega)).trans b1
      have b3 : ((V1.alloc (.cells #[.int .u8 0, .bool false, .bool false, .bool false, .bool false, .int .i64 0, .int .i64 0, .int .i64 0, .bool false, .int .i64 0, .int .i64 0, .int .i64 0, .int .i64 0, .int .i64 0, .int .i64 0, .int .i64 0, .int .i64 0, .int .i64 0, .int .i64 0, .int .i64 0, .int .i64 0, .int .i64 0, .int .i64 0, .int .i64 0, .int .i64 0] 26)).alloc (.cells #[.int .u8 (a' : Nat), .int .u8 (b' : Nat)] 5)).drew.heap[V1.heap.size + 1]? = some (.cells #[.int .u8 (a' : Nat), .int .u8 (b' : Nat)] 5) := by
        have := heap_alloc_new (V1.alloc (.cells #[.int .u8 0, .bool false, .bool false, .bool false, .bool false, .int .i64 0, .int .i64 0, .int .i64 0, .bool false, .int .i64 0, .int .i64 0, .int .i64 0, .int .i64 0, .int .i64 0, .int .i64 0, .int .i64 0, .int .i64 0, .int .i64 0, .int .i64 0, .int .i64 0, .int .i64 0, .int .i64 0, .int .i64 0, .int .i64 0, .int .i64 0] 26)) (.cells #[.int .u8 (a' : Nat), .int .u8 (b' : Nat)] 5)
        rwa [World.size_alloc] at this
      have b4 : ((V1.alloc (.cells #[.int .u8 (a' : Nat), .int .u8 (b' : Nat)] 5)).alloc (.cells #[.int .u8 0, .bool false, .bool false, .bool false, .bool false, .int .i64 0, .int .i64 0, .int .i64 0, .bool false, .int .i64 0, .int .i64 0, .int .i64 0, .int .i64 0, .int .i64 0, .int .i64 0, .int .i64 0, .int .i64 0, .int .i64 0, .int .i64 0, .int .i64 0, .int .i64 0, .int .i64 0, .int .i64 0, .int .i64 0, .int .i64 0] 26)).drew.heap[V1.heap.size + 1]? = some (.cells #[.int .u8 0, .bool false, .bool false, .bool false, .bool false, .int .i64 0, .int .i64 0, .int .i64 0, .bool false, .int .i64 0, .int .i64 0, .int .i64 0, .int .i64 0, .int .i64 0, .int .i64 0, .int .i64 0, .int .i64 0, .int .i64 0, .int .i64 0, .int .i64 0, .int .i64 0, .int .i64 0, .int .i64 0, .int .i64 0, .int .i64 0] 26) := by
        have := heap_alloc_new (V1.alloc (.cells #[.int .u8 (a' : Nat), .int .u8 (b' : Nat)] 5)) (.cells #[.int .u8 0, .bool false, .bool false, .bool false, .bool false, .int .i64 0, .int .i64 0, .int .i64 0, .bool false, .int .i64 0, .int .i64 0, .int .i64 0, .int .i64 0, .int .i64 0, .int .i64 0, .int .i64 0, .int .i64 0, .int .i64 0, .int .i64 0, .int .i64 0, .int .i64 0, .int .i64 0, .int .i64 0, .int .i64 0, .int .i64 0] 26)
        rwa [World.size_alloc] at this
      have b5 : ((V1.alloc (.cells #[.int .u8 0, .bool false, .bool false, .bool false, .bool false, .int .i64 0, .int .i64 0, .int .i64 0, .bool false, .int .i64 0, .int .i64 0, .int .i64 0, .int .i64 0, .int .i64 0, .int .i64 0, .int .i64 0, .int .i64 0, .int .i64 0, .int .i64 0, .int .i64 0, .int .i64 0, .int .i64 0, .int .i64 0, .int .i64 0, .int .i64 0] 26)).alloc (.cells #[.int .u8 (a' : Nat), .int .u8 (b' : Nat)] 5)).drew.heap[V1.heap.size]? = some (.cells #[.int .u8 0, .bool false, .bool false, .bool false, .bool false, .int .i64 0, .int .i64 0, .int .i64 0, .bool false, .int .i64 0, .int .i64 0, .int .i64 0, .int .i64 0, .int .i64 0, .int .i64 0, .int .i64 0, .int .i64 0, .int .i64 0, .int .i64 0, .int .i64 0, .int .i64 0, .int .i64 0, .int .i64 0, .int .i64 0, .int .i64 0] 26) := (((Grew.refl (V1.alloc (.cells #[.int .u8 0, .bool false, .bool false, .bool false, .bool false, .int .i64 0, .int .i64 0, .int .i64 0, .bool false, .int .i64 0, .int .i64 0, .int .i64 0, .int .i64 0, .int .i64 0, .int .i64 0, .int .i64 0, .int .i64 0, .int .i64 0, .int .i64 0, .int .i64 0, .int .i64 0, .int .i64 0, .int .i64 0, .int .i64 0, .int .i64 0] 26))).alloc (.cells #[.int .u8 (a' : Nat), .int .u8 (b' : Nat)] 5)).below.block _ (by rw [World.size_alloc]; omega)).trans (heap_alloc_new V1 _)
      have t1 := two_text _ _ _ _ b1
      have t2 := two_text _ _ _ _ b2
      have t3 := two_text _ _ _ _ b3
      have B4 := Lib.hid b4
      have B5 := Lib.hid b5
      have HL4 := Lib.hid (Array.getElem?_eq_some_iff.1 b4).1
      have HL5 := Lib.hid (Array.getElem?_eq_some_iff.1 b5).1
      have N1 := n1.out
      have GF1 := Lib.hid ((Grew.refl V1).alloc (.cells #[.int .u8 (a' : Nat), .int .u8 (b' : Nat)] 5)).drew
      have GF2 := Lib.hid (((Grew.refl V1).alloc (.cells #[.int .u8 (a' : Nat), .int .u8 (b' : Nat)] 5)).alloc (.cells #[.int .u8 0, .bool false, .bool false, .bool false, .bool false, .int .i64 0, .int .i64 0, .int .i64 0, .bool false, .int .i64 0, .int .i64 0, .int .i64 0, .int .i64 0, .int .i64 0, .int .i64 0, .int .i64 0, .int .i64 0, .int .i64 0, .int .i64 0, .int .i64 0, .int .i64 0, .int .i64 0, .int .i64 0, .int .i64 0, .int .i64 0] 26)).drew
      have GF3 := Lib.hid (((Grew.refl V1).alloc (.cells #[.int .u8 0, .bool false, .bool false, .bool false, .bool false, .int .i64 0, .int .i64 0, .int .i64 0, .bool false, .int .i64 0, .int .i64 0, .int .i64 0, .int .i64 0, .int .i64 0, .int .i64 0, .int .i64 0, .int .i64 0, .int .i64 0, .int .i64 0, .int .i64 0, .int .i64 0, .int .i64 0, .int .i64 0, .int .i64 0, .int .i64 0] 26)).alloc (.cells #[.int .u8 (a' : Nat), .int .u8 (b' : Nat)] 5)).drew
      clear b1 b2 b3 b4 b5
      go_cut [9, 10] (fun p q wx => ∃ vb, p = .pointer (some ⟨vb, 0, none⟩) ∧ q = .int .i64 0 ∧ wx.heap[vb]? = some (.cells C 26) ∧ Grew V1 wx)
      case first =>
        go_region_with (first
          | (go_at_call 5; refine (HT (V1.alloc (.cells #[.int .u8 (a' : Nat), .int .u8 (b' : Nat)] 5)).drew).out.mono ?_; rintro e w2 ⟨rfl, g2⟩; have y := st_new w2 C HI.out n1.out o1.out; have FIN := Lib.hid (And.intro (heap_alloc_new w2 (.cells C 26)) ((GF1.out.trans g2).alloc (.cells C 26))))
          | (go_at_call 5; refine (HT ((V1.alloc (.cells #[.int .u8 (a' : Nat), .int .u8 (b' : Nat)] 5)).alloc (.cells #[.int .u8 0, .bool false, .bool false, .bool false, .bool false, .int .i64 0, .int .i64 0, .int .i64 0, .bool false, .int .i64 0, .int .i64 0, .int .i64 0, .int .i64 0, .int .i64 0, .int .i64 0, .int .i64 0, .int .i64 0, .int .i64 0, .int .i64 0, .int .i64 0, .int .i64 0, .int .i64 0, .int .i64 0, .int .i64 0, .int .i64 0] 26)).drew).out.mono ?_; rintro e w2 ⟨rfl, g2⟩; have y := st_at w2 (V1.heap.size + 1) C ((g2.below.block _ HL4.out).trans B4.out) HI.out n1.out o1.out; have FIN := Lib.hid (And.intro (setRow_heap w2 (V1.heap.size + 1) _ C _ _ ((g2.below.block _ HL4.out).trans B4.out)) (Far.grew (far_setRow w2 (V1.heap.size + 1) C) (GF2.out.trans g2) (fun k hk => by have hk' : k = V1.heap.size + 1 := hk; omega))))
          | (go_at_call 5; refine (HT ((V1.alloc (.cells #[.int .u8 0, .bool false, .bool false, .bool false, .bool false, .int .i64 0, .int .i64 0, .int .i64 0, .bool false, .int .i64 0, .int .i64 0, .int .i64 0, .int .i64 0, .int .i64 0, .int .i64 0, .int .i64 0, .int .i64 0, .int .i64 0, .int .i64 0, .int .i64 0, .int .i64 0, .int .i64 0, .int .i64 0, .int .i64 0, .int .i64 0] 26)).alloc (.cells #[.int .u8 (a' : Nat), .int .u8 (b' : Nat)] 5)).drew).out.mono ?_; rintro e w2 ⟨rfl, g2⟩; have y := st_at w2 V1.heap.size C ((g2.below.block _ HL5.out).trans B5.out) HI.out n1.out o1.out; have FIN := Lib.hid (And.intro (setRow_heap w2 V1.heap.size _ C _ _ ((g2.below.block _ HL5.out).trans B5.out)) (Far.grew (far_setRow w2 V1.heap.size C) (GF3.out.trans g2) (fun k hk => Nat.le_of_eq hk.symm)))))
        all_goals
          go_wp2_with fail
          go_meet
          exact ⟨_, rfl, rfl, FIN.out.1, FIN.out.2⟩
      case rest =>
        obtain ⟨vb, rfl, rfl, hvb, gx⟩ := hcut
        have hvl := (Array.getElem?_eq_some_iff.1 hvb).1
        have l1x := Nat.lt_of_lt_of_le l1 gx.size
        have c1x := (gx.below.block _ l1).trans c1
        have G2 := Lib.hid (G1.out.trans gx)
        clear HT t1 t2 t3 B4 B5 HL4 HL5 GF1 GF2 GF3 gx c1 l1 HP
        go_upto_region 9 with (first | (go_at_call 6; refine (HR _).out.mono ?_; rintro e w3 ⟨rfl, g3⟩) | (go_at_call 5; refine (HCm _).out.mono ?_; rintro e w4 ⟨rfl, g4⟩) | (refine wpList_alloc_as rfl 26 rfl Z HZ.out ?_) | (refine wpList_store_new rfl 26 _ _ rfl w4 Z Z 26 rfl rfl rfl (by rw [HI.out, nz.out]) rfl oz.out ?_))
        obtain ⟨V5, hV5, k5, s5, c5⟩ := newO w4 (.cells Z 26)
        rw [hV5]
        have G35 : Grew wc V5 := Grew.trans (Grew.trans g3 g4) k5
        have hv5 := (G35.below.block _ hvl).trans hvb
        have c15 := (G35.below.block _ l1x).trans c1x
        have G5 := Lib.hid (G2.out.trans G35)
        clear hV5 s5 k5 g3 g4 G35 hvb c1x hvl l1x c5
        go_wp2_with (first | (refine wpList_load_want rfl 26 _ rfl vb rfl C 26 _ hv5 Tryd.underlying26 rfl (by rw [HI.out, n1.out]) ?_) | (refine wpList_load_want rfl 26 _ rfl w1.heap.size rfl C 26 _ c15 Tryd.underlying26 rfl (by rw [HI.out, n1.out]) ?_) | (go_at_call 4; refine (HK _).out.mono ?_; rintro e w6 ⟨rfl, g6⟩))
        go_ret
        exact ⟨rfl, G5.out.trans g6⟩
    · have hF2 : F = {} := by rw [← hF]; exact parse_err s (by rw [he]; exact h0)
      subst hF2
      have HQ := fun w => eql_fix {} w
      obtain ⟨Z, hz⟩ : ∃ C, Told.cells {} = C := ⟨_, rfl⟩
      rw [hz] at HP HZ HB nz oz HQ
      have z0 : ¬ (e : Int) = 0 := by omega
      have z1 : ((e : Int) != 0) = true := by simp; omega
      clear hz he hF h0 n1 o1 ha hb h2
      go_enter Tryd.func3, Tryd.ntmps3
      go_upto_region 3 with fail
      go_upto_region 4 with (first | (go_at_call 5; refine (HP _).out.mono ?_; rintro e w1 ⟨rfl, g1⟩) | (refine wpList_alloc_as rfl 26 rfl Z HZ.out ?_) | (refine wpList_store_new rfl 26 _ _ rfl w1 Z Z 26 rfl rfl rfl (by rw [HI.out, nz.out]) rfl oz.out ?_))
      obtain ⟨V1, hV1, k1, s1, c1⟩ := newO w1 (.cells Z 26)
      rw [hV1]
      have G1 := Lib.hid (g1.trans k1)
      clear hV1 s1 g1 k1
      go_wp2_with (first | (refine wpList_load_whole rfl 26 _ rfl w1.heap.size rfl Z 26 _ c1 Tryd.underlying26 rfl (by rw [HI.out, nz.out]) ?_) | (refine wpList_build_as rfl 26 _ rfl Z [] rfl HB.out ?_) | (go_at_call 4; refine (HK _).out.mono ?_; rintro e w4 ⟨rfl, g4⟩))
      go_ret
      exact ⟨rfl, G1.out.trans g4⟩
  · have c2 : (200 : Int) < s.size := by omega
    clear h2 ha hb
    go_enter Tryd.func3, Tryd.ntmps3
    go_wp2_with (first | (go_at_call 4; refine (HK _).out.mono ?_; rintro e w1 ⟨rfl, g1⟩))
    go_ret
    exact ⟨rfl, g1⟩
end Go.Proofs.YtajgicliepenkaaDoor
