/-
  Walks: the reference's Record, for fields of which 'told' tells the values.
  Conditions: the fields lie in memory; the values may be, but for how many parts there are, and have at most 4096 parts; names are no longer than texts may be.
  Walks: the reference's word, told answer 'wordL', 'V.told'.
  Conditions: the value lies in memory, may be, but for how many parts there are, and has at most 4096 parts.
  Walks: the reference's told tells 'V.told', its Text 'V.text'.
  Conditions: the value lies in memory; it has at most 2^40 parts.
-/
import Derived.Test.YtmhemajcnfcdmaaGreatDoorRefQD
import Derived.Deep.RegionHeld3
import Derived.Deep.CutRange
import Derived.Deep.DeepCutAuto
import Derived.Test.YtmhemajcnfcdmaaGreatDoorRefB
namespace Go.Proofs.YtmhemajcnfcdmaaGreatDoor
open Go.RowKit
def Later (w W : World) : Prop := Below w.heap.size w W
theorem later_drew (w : World) : Later w w.drew := (Below.refl _ _).drew
theorem Later.below {w W W' : World} (h : Later w W) (hb : Below W.heap.size W W') : Later w W' := Below.trans h (hb.mono (Below.size h))
set_option maxRecDepth 100000 in
set_option maxHeartbeats 4000000 in
theorem rrecord_any (fa : Option Addr) (fl fc : Nat) (fn : Nat → ByteArray) (F : Nat → V) (hv : ∀ i, i < fl → TIs (F i)) (hsh : ∀ i, i < fl → (F i).shaped) (hz : sumTo fl (fun i => (F i).size) ≤ 4096) (hnm : ∀ i, i < fl → (fn i).size ≤ 4096) (w : World) (hlc : fl ≤ fc ∧ fc ≤ maxLen)
    (h : ∀ i, i < fl → (∃ b o, fa = some ⟨b, o, none⟩ ∧ At w b (o + i * 9) (.string (fn i) :: (F i).cells)) ∧ (fn i).size ≤ maxLen ∧ (F i).In w) :
    Calls Tryz.prog 192 #[.slice fa fl fc] w fun e w' => e = .returned (.string ⟨(recL fl fn (fun i => (F i).told)).toArray⟩) ∧ Below w.heap.size w w' := by
  unfold maxLen at hlc
  have HB0 : Hid (∀ j, j ≤ fl → (sepTo j (fun i => quotedL (fn i).data.toList ++ (32 :: (F i).told))).length ≤ 122880000) := fun j hj => sep_bound hj (fun i hi => by
    have h1 := told_length (F i) (hsh i hi) (h i hi).2.2.nums
    have h2 := quotedL_length (fn i).data.toList
    have h3 : (fn i).data.toList.length = (fn i).size := by simp
    have h4 := hnm i hi
    simp only [List.length_append, List.length_cons]
    omega) hz
  have HT : Hid (∀ i, i < fl → (F i).told.length ≤ 122880000) := fun i hi => by
    have h1 := told_length (F i) (hsh i hi) (h i hi).2.2.nums
    have h2 : (F i).size ≤ sumTo fl (fun i => (F i).size) := le_sumTo (f := fun i => (F i).size) hi
    have h3 : 30000 * (F i).size ≤ 30000 * 4096 := Nat.mul_le_mul_left _ (by omega)
    omega
  have HQ0 : Hid (∀ i, i < fl → (fn i).size ≤ 4096 ∧ (quotedL (fn i).data.toList).length ≤ 8194) := fun i hi => by
    have h2 := quotedL_length (fn i).data.toList
    have h3 : (fn i).data.toList.length = (fn i).size := by simp
    have h4 := hnm i hi
    exact ⟨h4, by omega⟩
  have H : Hid (∀ i, i < fl → (∃ b o, fa = some ⟨b, o, none⟩ ∧ At w b (o + i * 9) (.string (fn i) :: (F i).cells)) ∧ (fn i).size ≤ maxLen ∧ (F i).In w) := h
  have H2 : Hid (∀ i, i < fl → ∀ W, (F i).In W → Calls Tryz.prog 171 #[(F i).agg] W fun e w' => e = .returned (.string ⟨(F i).told.toArray⟩) ∧ Below W.heap.size W w') := fun i hi W hw => hv i hi (hsh i hi) (by
    have h2 : (F i).size ≤ sumTo fl (fun i => (F i).size) := le_sumTo (f := fun i => (F i).size) hi
    omega) W hw
  clear h hv hsh hz hnm
  go_enter Tryz.func192, Tryz.ntmps192
  go_wp2_with fail
  go_loopw [3, 4] (fun s i wr => ∃ (j : Nat) (S : ByteArray), j ≤ fl ∧ i = .int .i64 j ∧ s = .string S ∧ IsS S (123 :: sepTo j (fun i => quotedL (fn i).data.toList ++ (32 :: (F i).told))) ∧ Below w.heap.size w wr) (fun _ i _ => fl - (intOf i).toNat)
  case atStart => exact ⟨0, _, Nat.zero_le _, rfl, rfl, rfl, Below.refl _ _⟩
  case round =>
    obtain ⟨j, S, hj, rfl, rfl, hs, hb⟩ := hrel
    have HB := Lib.hid hb
    have HS := Lib.hid hs
    have hsz : S.size ≤ 122880001 := by have h1 := hs.size; have h2 := HB0.out j hj; simp only [List.length_cons] at h1; omega
    clear hb hs
    by_cases hlt : j < fl
    · obtain ⟨⟨b, o, rfl, hat⟩, -, hin⟩ := H.out j hlt
      have hat := hat.below HB.out
      have hin := hin.below HB.out
      obtain ⟨hq1, hq2⟩ := HQ0.out j hlt
      have HX := Lib.hid (fun W (hw : Later wr W) => H2.out j hlt W (hin.below hw))
      have HXQ := Lib.hid (fun W (_hw : Later wr W) => rquoted_any (fn j) W (by omega))
      have HTL := Lib.hid (HT.out j hlt)
      have HSS := Lib.hid (show sepTo (j + 1) (fun i => quotedL (fn i).data.toList ++ (32 :: (F i).told)) = sepTo j (fun i => quotedL (fn i).data.toList ++ (32 :: (F i).told)) ++ ((if 0 < j then [32] else []) ++ (quotedL (fn j).data.toList ++ (32 :: (F j).told))) from rfl)
      have KS := Lib.hid (fun W (hw : Later wr W) => And.intro hw (hat.below hw))
      obtain ⟨v, hv⟩ : ∃ v, F j = v := ⟨_, rfl⟩
      rw [hv] at hat hin HX HTL HSS KS
      clear hv
      cases v with
      | leaf => exact hin.elim
      | mk k2 n2 s2 la2 ll2 lc2 L2 fa2 fl2 fc2 fn2 F2 e2 key2 hk2 =>
      have KS2 := Lib.hid (fun W (hw : Later wr W) => And.intro (KS.out W hw).1 (at9 (KS.out W hw).2))
      clear KS
      generalize (V.mk k2 n2 s2 la2 ll2 lc2 L2 fa2 fl2 fc2 fn2 F2 e2 key2 hk2).told = tl at HX HTL HSS
      obtain ⟨T, hT⟩ : ∃ T : ByteArray, (⟨tl.toArray⟩ : ByteArray) = T := ⟨_, rfl⟩
      rw [hT] at HX
      have hts : IsS T tl := by rw [← hT]; exact IsS.mk _
      have HTS := Lib.hid hts
      have htz : T.size ≤ 122880000 := by have h1 := hts.size; have h2 := HTL.out; omega
      obtain ⟨Qt, hQt⟩ : ∃ T : ByteArray, (⟨(quotedL (fn j).data.toList).toArray⟩ : ByteArray) = T := ⟨_, rfl⟩
      rw [hQt] at HXQ
      have hqs : IsS Qt (quotedL (fn j).data.toList) := by rw [← hQt]; exact IsS.mk _
      have HQS := Lib.hid hqs
      have hqz : Qt.size ≤ 8194 := by have h1 := hqs.size; omega
      generalize fn j = nm at HXQ KS2 HQS HSS
      clear hT hts hat hin hQt hqs hq1 hq2 HTL
      simp only [V.agg, V.cells] at HX
      have hl0 : (0 : Int) ≤ (j : Int) := by omega
      have hli : (j : Int) < (fl : Int) := by omega
      have HR : Hid (∀ S1, IsS S1 (123 :: (sepTo j (fun i => quotedL (fn i).data.toList ++ (32 :: (F i).told)) ++ if 0 < j then [32] else [])) → IsS (S1 ++ Qt ++ ⟨#[32]⟩ ++ T) (123 :: sepTo (j + 1) (fun i => quotedL (fn i).data.toList ++ (32 :: (F i).told)))) := fun S1 h1 => by
        have := ((h1.add HQS.out).add (IsS.mk [32])).add HTS.out
        rw [HSS.out]
        simpa [List.append_assoc] using this
      clear HSS HQS HTS
      have hcase : (0 < j ∧ ∃ S1, S ++ ⟨#[32]⟩ = S1 ∧ S1.size ≤ 122880002 ∧ IsS S1 (123 :: (sepTo j (fun i => quotedL (fn i).data.toList ++ (32 :: (F i).told)) ++ if 0 < j then [32] else []))) ∨ (j = 0 ∧ IsS S (123 :: (sepTo j (fun i => quotedL (fn i).data.toList ++ (32 :: (F i).told)) ++ if 0 < j then [32] else []))) := by
        rcases Nat.eq_zero_or_pos j with h0 | h0
        · right
          refine ⟨h0, ?_⟩
          rw [if_neg (by omega), List.append_nil]
          exact HS.out
        · left
          refine ⟨h0, _, rfl, by rw [ByteArray.size_append]; show S.size + 1 ≤ _; omega, ?_⟩
          rw [if_pos h0]
          exact HS.out.add (IsS.mk [32])
      rcases hcase with ⟨hj0, S1, hS1, hz1, hi1⟩ | ⟨hj0, hi1⟩
      · have HI := Lib.hid (HR.out S1 hi1)
        have HE := Lib.hid hS1
        have g1 : (0 : Int) < (j : Int) := by omega
        clear hj0 hi1 HR hS1
        go_upto_region 7 with fail
        rw [HE.out]
        obtain ⟨X1, hX1⟩ : ∃ X, S1 ++ Qt = X := ⟨_, rfl⟩
        obtain ⟨X2, hX2⟩ : ∃ X, X1 ++ ⟨#[32]⟩ = X := ⟨_, rfl⟩
        obtain ⟨X3, hX3⟩ : ∃ X, X2 ++ T = X := ⟨_, rfl⟩
        have z1 : X1.size ≤ 122900000 := by rw [← hX1, ByteArray.size_append]; omega
        have z2 : X2.size ≤ 122900001 := by rw [← hX2, ByteArray.size_append]; show X1.size + 1 ≤ _; omega
        have ka1 : ∀ w, (Op.stringOp .add S1 Qt).run Tryz.prog w = .ok (.string X1) w := fun w => by rw [← hX1]; exact run_string_add_sum w _ _ (by omega)
        have ka2 : ∀ w, (Op.stringOp .add X1 ⟨#[32]⟩).run Tryz.prog w = .ok (.string X2) w := fun w => by rw [← hX2]; exact run_string_add_sum w _ _ (by show X1.size + 1 ≤ _; omega)
        have ka3 : ∀ w, (Op.stringOp .add X2 T).run Tryz.prog w = .ok (.string X3) w := fun w => by rw [← hX3]; exact run_string_add_sum w _ _ (by omega)
        rw [hX1, hX2, hX3] at HI
        clear hX1 hX2 hX3 z1 z2
        clear hsz
        go_region_held3 (fun W => Later wr W ∧ W.cell? ⟨b, o + j * 9, none⟩ = some (.string nm) ∧ W.cell? ⟨b, o + j * 9 + 1, none⟩ = some (.int .u8 k2) ∧ W.cell? ⟨b, o + j * 9 + 2, none⟩ = some (.int .i64 n2) ∧ W.cell? ⟨b, o + j * 9 + 3, none⟩ = some (.string s2) ∧ W.cell? ⟨b, o + j * 9 + 4, none⟩ = some (.slice la2 ll2 lc2) ∧ W.cell? ⟨b, o + j * 9 + 5, none⟩ = some (.slice fa2 fl2 fc2) ∧ W.cell? ⟨b, o + j * 9 + 6, none⟩ = some (.int .u8 e2) ∧ W.cell? ⟨b, o + j * 9 + 7, none⟩ = some (.string key2) ∧ W.cell? ⟨b, o + j * 9 + 8, none⟩ = some (.bool hk2))
          (first | (refine KS2.out _ ?_; with_reducible exact later_drew _) | (refine KS2.out _ (Later.below ?_ (by with_reducible assumption)); go_split_ands; with_reducible assumption) | with_reducible assumption)
          (first
            | (go_at_call 190; refine (HXQ.out _ ?_).mono ?_; (go_split_ands; assumption); rintro x w1 ⟨rfl, hb1⟩)
            | (go_at_call 171; refine (HX.out _ ?_).mono ?_; (go_split_ands; assumption); rintro x w1 ⟨rfl, hb1⟩))
        rename_i hS
        have HW := Lib.hid (HB.out.trans (Below.mono hS.1 HB.out.size))
        clear hS
        go_wp2_with fail
        go_roundw
        case rel => exact ⟨j + 1, _, by omega, by go_num, rfl, HI.out, HW.out⟩
        case measure => simp [intOf]; omega
      · have HI := Lib.hid (HR.out S hi1)
        have g1 : ¬ (0 : Int) < (j : Int) := by omega
        clear hj0 hi1 HR
        go_upto_region 7 with fail
        obtain ⟨X1, hX1⟩ : ∃ X, S ++ Qt = X := ⟨_, rfl⟩
        obtain ⟨X2, hX2⟩ : ∃ X, X1 ++ ⟨#[32]⟩ = X := ⟨_, rfl⟩
        obtain ⟨X3, hX3⟩ : ∃ X, X2 ++ T = X := ⟨_, rfl⟩
        have z1 : X1.size ≤ 122900000 := by rw [← hX1, ByteArray.size_append]; omega
        have z2 : X2.size ≤ 122900001 := by rw [← hX2, ByteArray.size_append]; show X1.size + 1 ≤ _; omega
        have ka1 : ∀ w, (Op.stringOp .add S Qt).run Tryz.prog w = .ok (.string X1) w := fun w => by rw [← hX1]; exact run_string_add_sum w _ _ (by omega)
        have ka2 : ∀ w, (Op.stringOp .add X1 ⟨#[32]⟩).run Tryz.prog w = .ok (.string X2) w := fun w => by rw [← hX2]; exact run_string_add_sum w _ _ (by show X1.size + 1 ≤ _; omega)
        have ka3 : ∀ w, (Op.stringOp .add X2 T).run Tryz.prog w = .ok (.string X3) w := fun w => by rw [← hX3]; exact run_string_add_sum w _ _ (by omega)
        rw [hX1, hX2, hX3] at HI
        clear hX1 hX2 hX3 z1 z2
        go_region_held3 (fun W => Later wr W ∧ W.cell? ⟨b, o + j * 9, none⟩ = some (.string nm) ∧ W.cell? ⟨b, o + j * 9 + 1, none⟩ = some (.int .u8 k2) ∧ W.cell? ⟨b, o + j * 9 + 2, none⟩ = some (.int .i64 n2) ∧ W.cell? ⟨b, o + j * 9 + 3, none⟩ = some (.string s2) ∧ W.cell? ⟨b, o + j * 9 + 4, none⟩ = some (.slice la2 ll2 lc2) ∧ W.cell? ⟨b, o + j * 9 + 5, none⟩ = some (.slice fa2 fl2 fc2) ∧ W.cell? ⟨b, o + j * 9 + 6, none⟩ = some (.int .u8 e2) ∧ W.cell? ⟨b, o + j * 9 + 7, none⟩ = some (.string key2) ∧ W.cell? ⟨b, o + j * 9 + 8, none⟩ = some (.bool hk2))
          (first | (refine KS2.out _ ?_; with_reducible exact later_drew _) | (refine KS2.out _ (Later.below ?_ (by with_reducible assumption)); go_split_ands; with_reducible assumption) | with_reducible assumption)
          (first
            | (go_at_call 190; refine (HXQ.out _ ?_).mono ?_; (go_split_ands; assumption); rintro x w1 ⟨rfl, hb1⟩)
            | (go_at_call 171; refine (HX.out _ ?_).mono ?_; (go_split_ands; assumption); rintro x w1 ⟨rfl, hb1⟩))
        rename_i hS
        have HW := Lib.hid (HB.out.trans (Below.mono hS.1 HB.out.size))
        clear hS
        go_wp2_with fail
        go_roundw
        case rel => exact ⟨j + 1, _, by omega, by go_num, rfl, HI.out, HW.out⟩
        case measure => simp [intOf]; omega
    · obtain rfl : fl = j := by omega
      go_wp2_with fail
      go_ret
      exact ⟨ret_s (by have := HS.out.add (IsS.mk [125]); simpa [recL] using this), HB.out⟩
end Go.Proofs.YtmhemajcnfcdmaaGreatDoor
namespace Go.Proofs.YtmhemajcnfcdmaaGreatDoor
open Go.RowKit
set_option maxHeartbeats 2000000 in
theorem rword_any (e : Int) (w : World) (he : 1 ≤ e ∧ e ≤ 8) : Calls Tryz.prog 193 #[.int .u8 e] w fun x w' => x = .returned (.string ⟨(wordL e).toArray⟩) ∧ Below w.heap.size w w' := by
  obtain rfl | rfl | rfl | rfl | rfl | rfl | rfl | rfl : e = 1 ∨ e = 2 ∨ e = 3 ∨ e = 4 ∨ e = 5 ∨ e = 6 ∨ e = 7 ∨ e = 8 := by omega
  all_goals
    go_enter Tryz.func193, Tryz.ntmps193
    go_wp2_with fail
    go_ret
    exact ⟨rfl, below_alloc _ _⟩
def AnsS (w : World) (f : FuncId) (arg : Value) (T : ByteArray) : Prop := ∀ W, Below w.heap.size w W → Calls Tryz.prog f #[arg] W fun x w' => x = .returned (.string T) ∧ Below W.heap.size W w'
structure ToldArgs (w : World) (n : Int) (s : ByteArray) (la : Option Addr) (ll lc : Nat) (fa : Option Addr) (fl fc : Nat) (e : Int) (key : ByteArray) (LT RT : ByteArray) (lt rt : List UInt8) : Prop where
  hn : -9223372036854775808 ≤ n ∧ n ≤ 9223372036854775807
  hs : s.size ≤ 4096
  hkey : key.size ≤ 4096
  aL : AnsS w 191 (.slice la ll lc) LT
  aR : AnsS w 192 (.slice fa fl fc) RT
  sL : IsS LT lt
  sR : IsS RT rt
  zL : LT.size ≤ 122890000
  zR : RT.size ≤ 122890000
theorem quoted_small {s : ByteArray} (h : s.size ≤ 4096) : ∃ Q, IsS Q (quotedL s.data.toList) ∧ Q.size ≤ 8194 ∧ ∀ W, Calls Tryz.prog 190 #[.string s] W fun e w' => e = .returned (.string Q) ∧ Below W.heap.size W w' := by
  refine ⟨_, IsS.mk _, ?_, fun W => rquoted_any s W (by omega)⟩
  have h2 := quotedL_length s.data.toList
  have h3 : s.data.toList.length = s.size := by simp
  show (quotedL s.data.toList).toArray.size ≤ _
  simp
  omega
theorem digits_small {n : Int} (h : -9223372036854775808 ≤ n ∧ n ≤ 9223372036854775807) : ∃ D, IsS D (Lib.itoa n) ∧ D.size ≤ 100 ∧ ∀ W, Calls Tryz.prog 146 #[.int .i64 n] W fun e w' => e = .returned (.string D) ∧ Below W.heap.size W w' := by
  refine ⟨_, IsS.mk _, ?_, fun W => rdigits_any n W h⟩
  have h2 := Lib.itoa_length_le n h.1 h.2
  show (Lib.itoa n).toArray.size ≤ _
  simp
  omega
theorem word_small {e : Int} (h : 1 ≤ e ∧ e ≤ 8) : ∃ D, IsS D (wordL e) ∧ D.size ≤ 100 ∧ ∀ W, Calls Tryz.prog 193 #[.int .u8 e] W fun x w' => x = .returned (.string D) ∧ Below W.heap.size W w' := by
  refine ⟨_, IsS.mk _, ?_, fun W => rword_any e W h⟩
  have h2 := wordL_length e
  show (wordL e).toArray.size ≤ _
  simp
  omega
set_option maxRecDepth 100000 in
set_option maxHeartbeats 8000000 in
theorem told_0 (n : Int) (s : ByteArray) (la : Option Addr) (ll lc : Nat) (L : Nat → V) (fa : Option Addr) (fl fc : Nat) (fn : Nat → ByteArray) (F : Nat → V) (e : Int) (key : ByteArray) (hk : Bool) (LT RT : ByteArray) (lt rt : List UInt8) (w : World) 
    (h : ToldArgs w n s la ll lc fa fl fc e key LT RT lt rt) :
    Calls Tryz.prog 171 #[.agg #[.int .u8 0, .int .i64 n, .string s, .slice la ll lc, .slice fa fl fc, .int .u8 e, .string key, .bool hk]] w fun x w' => x = .returned (.string ⟨([110, 111, 110, 101]).toArray⟩) ∧ Below w.heap.size w w' := by
  obtain ⟨Q, h_Q, zQ, CQ0⟩ := quoted_small h.hs
  obtain ⟨Qk, h_Qk, zQk, CQk0⟩ := quoted_small h.hkey
  obtain ⟨D, h_D, zD, CD0⟩ := digits_small h.hn
  have CQ := Lib.hid CQ0
  have CQk := Lib.hid CQk0
  have CD := Lib.hid CD0
  have CL := Lib.hid (fun W (hb : BoxE w (.mk 0 n s la ll lc L fa fl fc fn F e key hk) W) => h.aL W hb.low)
  have CR := Lib.hid (fun W (hb : BoxE w (.mk 0 n s la ll lc L fa fl fc fn F e key hk) W) => h.aR W hb.low)
  have h_LT := h.sL
  have h_RT := h.sR
  have zLT := h.zL
  have zRT := h.zR
  clear CQ0 CQk0 CD0 h
  have KS := Lib.hid (fun W (hb : BoxE w (.mk 0 n s la ll lc L fa fl fc fn F e key hk) W) => And.intro hb (at80 hb.cv))
  have OK0 := Lib.hid (boxE w (.mk 0 n s la ll lc L fa fl fc fn F e key hk) 30)
  simp only [V.cells] at OK0
  have R := Lib.hid trivial
  clear h_Q h_Qk h_D h_LT h_RT zLT zRT zQ zQk zD
  go_enter Tryz.func171, Tryz.ntmps171
  go_upto_region 1 with fail
  have OKu := OK0.out
  generalize (w.alloc (.cells #[.int .u8 0, .int .i64 n, .string s, .slice la ll lc, .slice fa fl fc, .int .u8 e, .string key, .bool hk] 30)) = W0 at OKu ⊢
  have OK : BoxE w (.mk 0 n s la ll lc L fa fl fc fn F e key hk) W0 := OKu
  clear OKu OK0
  obtain ⟨-, c0, c1, c2, c3, c4, c5, c6, c7⟩ := KS.out _ OK
  go_wp2_with (first
    | (go_at_call 146; refine (CD.out _).mono ?_; rintro x w1 ⟨rfl, hb1⟩; (have OKn := BoxE.below (by assumption) hb1))
    | (go_at_call 190; refine (CQ.out _).mono ?_; rintro x w1 ⟨rfl, hb1⟩; (have OKn := BoxE.below (by assumption) hb1))
    | (go_at_call 191; refine (CL.out _ (by assumption)).mono ?_; rintro x w1 ⟨rfl, hb1⟩; (have OKn := BoxE.below (by assumption) hb1))
    | (go_at_call 192; refine (CR.out _ (by assumption)).mono ?_; rintro x w1 ⟨rfl, hb1⟩; (have OKn := BoxE.below (by assumption) hb1)))
  all_goals
    go_ret
    exact ⟨rfl, BoxE.low (by assumption)⟩
set_option maxRecDepth 100000 in
set_option maxHeartbeats 8000000 in
theorem told_1 (n : Int) (s : ByteArray) (la : Option Addr) (ll lc : Nat) (L : Nat → V) (fa : Option Addr) (fl fc : Nat) (fn : Nat → ByteArray) (F : Nat → V) (e : Int) (key : ByteArray) (hk : Bool) (LT RT : ByteArray) (lt rt : List UInt8) (w : World) 
    (h : ToldArgs w n s la ll lc fa fl fc e key LT RT lt rt) :
    Calls Tryz.prog 171 #[.agg #[.int .u8 1, .int .i64 n, .string s, .slice la ll lc, .slice fa fl fc, .int .u8 e, .string key, .bool hk]] w fun x w' => x = .returned (.string ⟨(Lib.itoa n).toArray⟩) ∧ Below w.heap.size w w' := by
  obtain ⟨Q, h_Q, zQ, CQ0⟩ := quoted_small h.hs
  obtain ⟨Qk, h_Qk, zQk, CQk0⟩ := quoted_small h.hkey
  obtain ⟨D, h_D, zD, CD0⟩ := digits_small h.hn
  have CQ := Lib.hid CQ0
  have CQk := Lib.hid CQk0
  have CD := Lib.hid CD0
  have CL := Lib.hid (fun W (hb : BoxE w (.mk 1 n s la ll lc L fa fl fc fn F e key hk) W) => h.aL W hb.low)
  have CR := Lib.hid (fun W (hb : BoxE w (.mk 1 n s la ll lc L fa fl fc fn F e key hk) W) => h.aR W hb.low)
  have h_LT := h.sL
  have h_RT := h.sR
  have zLT := h.zL
  have zRT := h.zR
  clear CQ0 CQk0 CD0 h
  have KS := Lib.hid (fun W (hb : BoxE w (.mk 1 n s la ll lc L fa fl fc fn F e key hk) W) => And.intro hb (at80 hb.cv))
  have OK0 := Lib.hid (boxE w (.mk 1 n s la ll lc L fa fl fc fn F e key hk) 30)
  simp only [V.cells] at OK0
  have R := Lib.hid (ret_s h_D)
  clear h_Q h_Qk h_D h_LT h_RT zLT zRT zQ zQk zD
  go_enter Tryz.func171, Tryz.ntmps171
  go_upto_region 1 with fail
  have OKu := OK0.out
  generalize (w.alloc (.cells #[.int .u8 1, .int .i64 n, .string s, .slice la ll lc, .slice fa fl fc, .int .u8 e, .string key, .bool hk] 30)) = W0 at OKu ⊢
  have OK : BoxE w (.mk 1 n s la ll lc L fa fl fc fn F e key hk) W0 := OKu
  clear OKu OK0
  obtain ⟨-, c0, c1, c2, c3, c4, c5, c6, c7⟩ := KS.out _ OK
  go_wp2_with (first
    | (go_at_call 146; refine (CD.out _).mono ?_; rintro x w1 ⟨rfl, hb1⟩; (have OKn := BoxE.below (by assumption) hb1))
    | (go_at_call 190; refine (CQ.out _).mono ?_; rintro x w1 ⟨rfl, hb1⟩; (have OKn := BoxE.below (by assumption) hb1))
    | (go_at_call 191; refine (CL.out _ (by assumption)).mono ?_; rintro x w1 ⟨rfl, hb1⟩; (have OKn := BoxE.below (by assumption) hb1))
    | (go_at_call 192; refine (CR.out _ (by assumption)).mono ?_; rintro x w1 ⟨rfl, hb1⟩; (have OKn := BoxE.below (by assumption) hb1)))
  all_goals
    go_ret
    exact ⟨R.out, BoxE.low (by assumption)⟩
set_option maxRecDepth 100000 in
set_option maxHeartbeats 8000000 in
theorem told_3 (n : Int) (s : ByteArray) (la : Option Addr) (ll lc : Nat) (L : Nat → V) (fa : Option Addr) (fl fc : Nat) (fn : Nat → ByteArray) (F : Nat → V) (e : Int) (key : ByteArray) (hk : Bool) (LT RT : ByteArray) (lt rt : List UInt8) (w : World) 
    (h : ToldArgs w n s la ll lc fa fl fc e key LT RT lt rt) :
    Calls Tryz.prog 171 #[.agg #[.int .u8 3, .int .i64 n, .string s, .slice la ll lc, .slice fa fl fc, .int .u8 e, .string key, .bool hk]] w fun x w' => x = .returned (.string ⟨(quotedL s.data.toList).toArray⟩) ∧ Below w.heap.size w w' := by
  obtain ⟨Q, h_Q, zQ, CQ0⟩ := quoted_small h.hs
  obtain ⟨Qk, h_Qk, zQk, CQk0⟩ := quoted_small h.hkey
  obtain ⟨D, h_D, zD, CD0⟩ := digits_small h.hn
  have CQ := Lib.hid CQ0
  have CQk := Lib.hid CQk0
  have CD := Lib.hid CD0
  have CL := Lib.hid (fun W (hb : BoxE w (.mk 3 n s la ll lc L fa fl fc fn F e key hk) W) => h.aL W hb.low)
  have CR := Lib.hid (fun W (hb : BoxE w (.mk 3 n s la ll lc L fa fl fc fn F e key hk) W) => h.aR W hb.low)
  have h_LT := h.sL
  have h_RT := h.sR
  have zLT := h.zL
  have zRT := h.zR
  clear CQ0 CQk0 CD0 h
  have KS := Lib.hid (fun W (hb : BoxE w (.mk 3 n s la ll lc L fa fl fc fn F e key hk) W) => And.intro hb (at80 hb.cv))
  have OK0 := Lib.hid (boxE w (.mk 3 n s la ll lc L fa fl fc fn F e key hk) 30)
  simp only [V.cells] at OK0
  have R := Lib.hid (ret_s h_Q)
  clear h_Q h_Qk h_D h_LT h_RT zLT zRT zQ zQk zD
  go_enter Tryz.func171, Tryz.ntmps171
  go_upto_region 1 with fail
  have OKu := OK0.out
  generalize (w.alloc (.cells #[.int .u8 3, .int .i64 n, .string s, .slice la ll lc, .slice fa fl fc, .int .u8 e, .string key, .bool hk] 30)) = W0 at OKu ⊢
  have OK : BoxE w (.mk 3 n s la ll lc L fa fl fc fn F e key hk) W0 := OKu
  clear OKu OK0
  obtain ⟨-, c0, c1, c2, c3, c4, c5, c6, c7⟩ := KS.out _ OK
  go_wp2_with (first
    | (go_at_call 146; refine (CD.out _).mono ?_; rintro x w1 ⟨rfl, hb1⟩; (have OKn := BoxE.below (by assumption) hb1))
    | (go_at_call 190; refine (CQ.out _).mono ?_; rintro x w1 ⟨rfl, hb1⟩; (have OKn := BoxE.below (by assumption) hb1))
    | (go_at_call 191; refine (CL.out _ (by assumption)).mono ?_; rintro x w1 ⟨rfl, hb1⟩; (have OKn := BoxE.below (by assumption) hb1))
    | (go_at_call 192; refine (CR.out _ (by assumption)).mono ?_; rintro x w1 ⟨rfl, hb1⟩; (have OKn := BoxE.below (by assumption) hb1)))
  all_goals
    go_ret
    exact ⟨R.out, BoxE.low (by assumption)⟩
set_option maxRecDepth 100000 in
set_option maxHeartbeats 8000000 in
theorem told_4 (n : Int) (s : ByteArray) (la : Option Addr) (ll lc : Nat) (L : Nat → V) (fa : Option Addr) (fl fc : Nat) (fn : Nat → ByteArray) (F : Nat → V) (e : Int) (key : ByteArray) (hk : Bool) (LT RT : ByteArray) (lt rt : List UInt8) (w : World) 
    (h : ToldArgs w n s la ll lc fa fl fc e key LT RT lt rt) :
    Calls Tryz.prog 171 #[.agg #[.int .u8 4, .int .i64 n, .string s, .slice la ll lc, .slice fa fl fc, .int .u8 e, .string key, .bool hk]] w fun x w' => x = .returned (.string ⟨(lt).toArray⟩) ∧ Below w.heap.size w w' := by
  obtain ⟨Q, h_Q, zQ, CQ0⟩ := quoted_small h.hs
  obtain ⟨Qk, h_Qk, zQk, CQk0⟩ := quoted_small h.hkey
  obtain ⟨D, h_D, zD, CD0⟩ := digits_small h.hn
  have CQ := Lib.hid CQ0
  have CQk := Lib.hid CQk0
  have CD := Lib.hid CD0
  have CL := Lib.hid (fun W (hb : BoxE w (.mk 4 n s la ll lc L fa fl fc fn F e key hk) W) => h.aL W hb.low)
  have CR := Lib.hid (fun W (hb : BoxE w (.mk 4 n s la ll lc L fa fl fc fn F e key hk) W) => h.aR W hb.low)
  have h_LT := h.sL
  have h_RT := h.sR
  have zLT := h.zL
  have zRT := h.zR
  clear CQ0 CQk0 CD0 h
  have KS := Lib.hid (fun W (hb : BoxE w (.mk 4 n s la ll lc L fa fl fc fn F e key hk) W) => And.intro hb (at80 hb.cv))
  have OK0 := Lib.hid (boxE w (.mk 4 n s la ll lc L fa fl fc fn F e key hk) 30)
  simp only [V.cells] at OK0
  have R := Lib.hid (ret_s h_LT)
  clear h_Q h_Qk h_D h_LT h_RT zLT zRT zQ zQk zD
  go_enter Tryz.func171, Tryz.ntmps171
  go_upto_region 1 with fail
  have OKu := OK0.out
  generalize (w.alloc (.cells #[.int .u8 4, .int .i64 n, .string s, .slice la ll lc, .slice fa fl fc, .int .u8 e, .string key, .bool hk] 30)) = W0 at OKu ⊢
  have OK : BoxE w (.mk 4 n s la ll lc L fa fl fc fn F e key hk) W0 := OKu
  clear OKu OK0
  obtain ⟨-, c0, c1, c2, c3, c4, c5, c6, c7⟩ := KS.out _ OK
  go_wp2_with (first
    | (go_at_call 146; refine (CD.out _).mono ?_; rintro x w1 ⟨rfl, hb1⟩; (have OKn := BoxE.below (by assumption) hb1))
    | (go_at_call 190; refine (CQ.out _).mono ?_; rintro x w1 ⟨rfl, hb1⟩; (have OKn := BoxE.below (by assumption) hb1))
    | (go_at_call 191; refine (CL.out _ (by assumption)).mono ?_; rintro x w1 ⟨rfl, hb1⟩; (have OKn := BoxE.below (by assumption) hb1))
    | (go_at_call 192; refine (CR.out _ (by assumption)).mono ?_; rintro x w1 ⟨rfl, hb1⟩; (have OKn := BoxE.below (by assumption) hb1)))
  all_goals
    go_ret
    exact ⟨R.out, BoxE.low (by assumption)⟩
set_option maxRecDepth 100000 in
set_option maxHeartbeats 8000000 in
theorem told_5 (n : Int) (s : ByteArray) (la : Option Addr) (ll lc : Nat) (L : Nat → V) (fa : Option Addr) (fl fc : Nat) (fn : Nat → ByteArray) (F : Nat → V) (e : Int) (key : ByteArray) (hk : Bool) (LT RT : ByteArray) (lt rt : List UInt8) (w : World) 
    (h : ToldArgs w n s la ll lc fa fl fc e key LT RT lt rt) :
    Calls Tryz.prog 171 #[.agg #[.int .u8 5, .int .i64 n, .string s, .slice la ll lc, .slice fa fl fc, .int .u8 e, .string key, .bool hk]] w fun x w' => x = .returned (.string ⟨(rt).toArray⟩) ∧ Below w.heap.size w w' := by
  obtain ⟨Q, h_Q, zQ, CQ0⟩ := quoted_small h.hs
  obtain ⟨Qk, h_Qk, zQk, CQk0⟩ := quoted_small h.hkey
  obtain ⟨D, h_D, zD, CD0⟩ := digits_small h.hn
  have CQ := Lib.hid CQ0
  have CQk := Lib.hid CQk0
  have CD := Lib.hid CD0
  have CL := Lib.hid (fun W (hb : BoxE w (.mk 5 n s la ll lc L fa fl fc fn F e key hk) W) => h.aL W hb.low)
  have CR := Lib.hid (fun W (hb : BoxE w (.mk 5 n s la ll lc L fa fl fc fn F e key hk) W) => h.aR W hb.low)
  have h_LT := h.sL
  have h_RT := h.sR
  have zLT := h.zL
  have zRT := h.zR
  clear CQ0 CQk0 CD0 h
  have KS := Lib.hid (fun W (hb : BoxE w (.mk 5 n s la ll lc L fa fl fc fn F e key hk) W) => And.intro hb (at80 hb.cv))
  have OK0 := Lib.hid (boxE w (.mk 5 n s la ll lc L fa fl fc fn F e key hk) 30)
  simp only [V.cells] at OK0
  have R := Lib.hid (ret_s h_RT)
  clear h_Q h_Qk h_D h_LT h_RT zLT zRT zQ zQk zD
  go_enter Tryz.func171, Tryz.ntmps171
  go_upto_region 1 with fail
  have OKu := OK0.out
  generalize (w.alloc (.cells #[.int .u8 5, .int .i64 n, .string s, .slice la ll lc, .slice fa fl fc, .int .u8 e, .string key, .bool hk] 30)) = W0 at OKu ⊢
  have OK : BoxE w (.mk 5 n s la ll lc L fa fl fc fn F e key hk) W0 := OKu
  clear OKu OK0
  obtain ⟨-, c0, c1, c2, c3, c4, c5, c6, c7⟩ := KS.out _ OK
  go_wp2_with (first
    | (go_at_call 146; refine (CD.out _).mono ?_; rintro x w1 ⟨rfl, hb1⟩; (have OKn := BoxE.below (by assumption) hb1))
    | (go_at_call 190; refine (CQ.out _).mono ?_; rintro x w1 ⟨rfl, hb1⟩; (have OKn := BoxE.below (by assumption) hb1))
    | (go_at_call 191; refine (CL.out _ (by assumption)).mono ?_; rintro x w1 ⟨rfl, hb1⟩; (have OKn := BoxE.below (by assumption) hb1))
    | (go_at_call 192; refine (CR.out _ (by assumption)).mono ?_; rintro x w1 ⟨rfl, hb1⟩; (have OKn := BoxE.below (by assumption) hb1)))
  all_goals
    go_ret
    exact ⟨R.out, BoxE.low (by assumption)⟩
set_option maxRecDepth 100000 in
set_option maxHeartbeats 8000000 in
theorem told_2 (n : Int) (s : ByteArray) (la : Option Addr) (ll lc : Nat) (L : Nat → V) (fa : Option Addr) (fl fc : Nat) (fn : Nat → ByteArray) (F : Nat → V) (e : Int) (key : ByteArray) (hk : Bool) (LT RT : ByteArray) (lt rt : List UInt8) (w : World) 
    (h : ToldArgs w n s la ll lc fa fl fc e key LT RT lt rt) :
    Calls Tryz.prog 171 #[.agg #[.int .u8 2, .int .i64 n, .string s, .slice la ll lc, .slice fa fl fc, .int .u8 e, .string key, .bool hk]] w fun x w' => x = .returned (.string ⟨(if n = 1 then [121, 101, 115] else [110, 111]).toArray⟩) ∧ Below w.heap.size w w' := by
  obtain ⟨Q, h_Q, zQ, CQ0⟩ := quoted_small h.hs
  obtain ⟨Qk, h_Qk, zQk, CQk0⟩ := quoted_small h.hkey
  obtain ⟨D, h_D, zD, CD0⟩ := digits_small h.hn
  have CQ := Lib.hid CQ0
  have CQk := Lib.hid CQk0
  have CD := Lib.hid CD0
  have CL := Lib.hid (fun W (hb : BoxE w (.mk 2 n s la ll lc L fa fl fc fn F e key hk) W) => h.aL W hb.low)
  have CR := Lib.hid (fun W (hb : BoxE w (.mk 2 n s la ll lc L fa fl fc fn F e key hk) W) => h.aR W hb.low)
  have h_LT := h.sL
  have h_RT := h.sR
  have zLT := h.zL
  have zRT := h.zR
  clear CQ0 CQk0 CD0 h
  have KS := Lib.hid (fun W (hb : BoxE w (.mk 2 n s la ll lc L fa fl fc fn F e key hk) W) => And.intro hb (at80 hb.cv))
  have OK0 := Lib.hid (boxE w (.mk 2 n s la ll lc L fa fl fc fn F e key hk) 30)
  simp only [V.cells] at OK0
  clear h_Q h_Qk h_D h_LT h_RT zLT zRT zQ zQk zD
  by_cases h1 : n = 1
  · subst h1
    go_enter Tryz.func171, Tryz.ntmps171
    go_upto_region 1 with fail
    have OKu := OK0.out
    generalize (w.alloc (.cells #[.int .u8 2, .int .i64 1, .string s, .slice la ll lc, .slice fa fl fc, .int .u8 e, .string key, .bool hk] 30)) = W0 at OKu ⊢
    have OK : BoxE w (.mk 2 1 s la ll lc L fa fl fc fn F e key hk) W0 := OKu
    clear OKu OK0
    obtain ⟨-, c0, c1, c2, c3, c4, c5, c6, c7⟩ := KS.out _ OK
    go_wp2_with fail
    go_ret
    exact ⟨rfl, OK.low⟩
  · have g1 : (n == 1) = false := by simp [h1]
    have R := Lib.hid (show Ending.returned (.string ⟨#[110, 111]⟩) = .returned (.string ⟨(if n = 1 then [121, 101, 115] else [110, 111] : List UInt8).toArray⟩) by rw [if_neg h1])
    have g2 : decide (n = 1) = false := by simp [h1]
    go_enter Tryz.func171, Tryz.ntmps171
    go_upto_region 1 with fail
    have OKu := OK0.out
    generalize (w.alloc (.cells #[.int .u8 2, .int .i64 n, .string s, .slice la ll lc, .slice fa fl fc, .int .u8 e, .string key, .bool hk] 30)) = W0 at OKu ⊢
    have OK : BoxE w (.mk 2 n s la ll lc L fa fl fc fn F e key hk) W0 := OKu
    clear OKu OK0
    obtain ⟨-, c0, c1, c2, c3, c4, c5, c6, c7⟩ := KS.out _ OK
    go_wp2_with fail
    all_goals
      go_ret
      first | exact ⟨rfl, OK.low⟩ | exact ⟨R.out, OK.low⟩
set_option maxRecDepth 100000 in
set_option maxHeartbeats 8000000 in
theorem told_7 (n : Int) (s : ByteArray) (la : Option Addr) (ll lc : Nat) (L : Nat → V) (fa : Option Addr) (fl fc : Nat) (fn : Nat → ByteArray) (F : Nat → V) (e : Int) (key : ByteArray) (hk : Bool) (LT RT : ByteArray) (lt rt : List UInt8) (w : World) 
    (h : ToldArgs w n s la ll lc fa fl fc e key LT RT lt rt) :
    Calls Tryz.prog 171 #[.agg #[.int .u8 7, .int .i64 n, .string s, .slice la ll lc, .slice fa fl fc, .int .u8 e, .string key, .bool hk]] w fun x w' => x = .returned (.string ⟨([60, 100, 101, 101, 100, 32] ++ (Lib.itoa n ++ (32 :: (quotedL s.data.toList ++ (32 :: (rt ++ [62])))))).toArray⟩) ∧ Below w.heap.size w w' := by
  obtain ⟨Q, h_Q, zQ, CQ0⟩ := quoted_small h.hs
  obtain ⟨Qk, h_Qk, zQk, CQk0⟩ := quoted_small h.hkey
  obtain ⟨D, h_D, zD, CD0⟩ := digits_small h.hn
  have CQ := Lib.hid CQ0
  have CQk := Lib.hid CQk0
  have CD := Lib.hid CD0
  have CL := Lib.hid (fun W (hb : BoxE w (.mk 7 n s la ll lc L fa fl fc fn F e key hk) W) => h.aL W hb.low)
  have CR := Lib.hid (fun W (hb : BoxE w (.mk 7 n s la ll lc L fa fl fc fn F e key hk) W) => h.aR W hb.low)
  have h_LT := h.sL
  have h_RT := h.sR
  have zLT := h.zL
  have zRT := h.zR
  clear CQ0 CQk0 CD0 h
  have KS := Lib.hid (fun W (hb : BoxE w (.mk 7 n s la ll lc L fa fl fc fn F e key hk) W) => And.intro hb (at80 hb.cv))
  have OK0 := Lib.hid (boxE w (.mk 7 n s la ll lc L fa fl fc fn F e key hk) 30)
  simp only [V.cells] at OK0
  obtain ⟨X1, hX1⟩ : ∃ X, (⟨#[60, 100, 101, 101, 100, 32]⟩ : ByteArray) ++ D = X := ⟨_, rfl⟩
  have iX1 := (IsS.mk [60, 100, 101, 101, 100, 32]).add (h_D)
  rw [hX1] at iX1
  have zX1 : X1.size ≤ 260000000 := by rw [← hX1, ByteArray.size_append]; (try show _ + _ ≤ _); (try show 6 + _ ≤ _); omega
  have ka1 : ∀ w, (Op.stringOp .add (⟨#[60, 100, 101, 101, 100, 32]⟩ : ByteArray) D).run Tryz.prog w = .ok (.string X1) w := fun w => by rw [← hX1]; exact run_string_add_sum w _ _ (by rw [← ByteArray.size_append, hX1]; omega)
  clear hX1
  obtain ⟨X2, hX2⟩ : ∃ X, X1 ++ (⟨#[32]⟩ : ByteArray) = X := ⟨_, rfl⟩
  have iX2 := (iX1).add (IsS.mk [32])
  rw [hX2] at iX2
  have zX2 : X2.size ≤ 390000000 := by rw [← hX2, ByteArray.size_append]; (try show _ + 1 ≤ _); (try show _ + _ ≤ _); omega
  have ka2 : ∀ w, (Op.stringOp .add X1 (⟨#[32]⟩ : ByteArray)).run Tryz.prog w = .ok (.string X2) w := fun w => by rw [← hX2]; exact run_string_add_sum w _ _ (by rw [← ByteArray.size_append, hX2]; omega)
  clear hX2
  obtain ⟨X3, hX3⟩ : ∃ X, X2 ++ Q = X := ⟨_, rfl⟩
  have iX3 := (iX2).add (h_Q)
  rw [hX3] at iX3
  have zX3 : X3.size ≤ 520000000 := by rw [← hX3, ByteArray.size_append]; (try show _ + _ ≤ _); (try show _ + _ ≤ _); omega
  have ka3 : ∀ w, (Op.stringOp .add X2 Q).run Tryz.prog w = .ok (.string X3) w := fun w => by rw [← hX3]; exact run_string_add_sum w _ _ (by rw [← ByteArray.size_append, hX3]; omega)
  clear hX3
  obtain ⟨X4, hX4⟩ : ∃ X, X3 ++ (⟨#[32]⟩ : ByteArray) = X := ⟨_, rfl⟩
  have iX4 := (iX3).add (IsS.mk [32])
  rw [hX4] at iX4
  have zX4 : X4.size ≤ 650000000 := by rw [← hX4, ByteArray.size_append]; (try show _ + 1 ≤ _); (try show _ + _ ≤ _); omega
  have ka4 : ∀ w, (Op.stringOp .add X3 (⟨#[32]⟩ : ByteArray)).run Tryz.prog w = .ok (.string X4) w := fun w => by rw [← hX4]; exact run_string_add_sum w _ _ (by rw [← ByteArray.size_append, hX4]; omega)
  clear hX4
  obtain ⟨X5, hX5⟩ : ∃ X, X4 ++ RT = X := ⟨_, rfl⟩
  have iX5 := (iX4).add (h_RT)
  rw [hX5] at iX5
  have zX5 : X5.size ≤ 780000000 := by rw [← hX5, ByteArray.size_append]; (try show _ + _ ≤ _); (try show _ + _ ≤ _); omega
  have ka5 : ∀ w, (Op.stringOp .add X4 RT).run Tryz.prog w = .ok (.string X5) w := fun w => by rw [← hX5]; exact run_string_add_sum w _ _ (by rw [← ByteArray.size_append, hX5]; omega)
  clear hX5
  obtain ⟨X6, hX6⟩ : ∃ X, X5 ++ (⟨#[62]⟩ : ByteArray) = X := ⟨_, rfl⟩
  have iX6 := (iX5).add (IsS.mk [62])
  rw [hX6] at iX6
  have zX6 : X6.size ≤ 910000000 := by rw [← hX6, ByteArray.size_append]; (try show _ + 1 ≤ _); (try show _ + _ ≤ _); omega
  have ka6 : ∀ w, (Op.stringOp .add X5 (⟨#[62]⟩ : ByteArray)).run Tryz.prog w = .ok (.string X6) w := fun w => by rw [← hX6]; exact run_string_add_sum w _ _ (by rw [← ByteArray.size_append, hX6]; omega)
  clear hX6
  have R := Lib.hid (show Ending.returned (.string X6) = .returned (.string ⟨([60, 100, 101, 101, 100, 32] ++ (Lib.itoa n ++ (32 :: (quotedL s.data.toList ++ (32 :: (rt ++ [62]))))) : List UInt8).toArray⟩) from ret_s (by simpa [List.append_assoc] using iX6))
  clear h_Q h_Qk h_D h_LT h_RT iX1 iX2 iX3 iX4 iX5 iX6 zX1 zX2 zX3 zX4 zX5 zX6 zLT zRT zQ zQk zD
  go_enter Tryz.func171, Tryz.ntmps171
  go_upto_region 1 with fail
  have OKu := OK0.out
  generalize (w.alloc (.cells #[.int .u8 7, .int .i64 n, .string s, .slice la ll lc, .slice fa fl fc, .int .u8 e, .string key, .bool hk] 30)) = W0 at OKu ⊢
  have OK : BoxE w (.mk 7 n s la ll lc L fa fl fc fn F e key hk) W0 := OKu
  clear OKu OK0
  obtain ⟨-, c0, c1, c2, c3, c4, c5, c6, c7⟩ := KS.out _ OK
  go_wp2_with fail
  go_region_held3 (fun W => BoxE w (.mk 7 n s la ll lc L fa fl fc fn F e key hk) W ∧ W.cell? ⟨w.heap.size, 0, none⟩ = some (.int .u8 7) ∧ W.cell? ⟨w.heap.size, 1, none⟩ = some (.int .i64 n) ∧ W.cell? ⟨w.heap.size, 2, none⟩ = some (.string s) ∧ W.cell? ⟨w.heap.size, 3, none⟩ = some (.slice la ll lc) ∧ W.cell? ⟨w.heap.size, 4, none⟩ = some (.slice fa fl fc) ∧ W.cell? ⟨w.heap.size, 5, none⟩ = some (.int .u8 e) ∧ W.cell? ⟨w.heap.size, 6, none⟩ = some (.string key) ∧ W.cell? ⟨w.heap.size, 7, none⟩ = some (.bool hk))
    (first | (refine KS.out _ (BoxE.below (W := W0) OK ?_); with_reducible exact (Below.refl _ _).drew) | (refine KS.out _ (BoxE.below ?_ (by with_reducible assumption)); go_split_ands; with_reducible assumption) | with_reducible assumption)
    (first
      | (go_at_call 146; refine (CD.out _).mono ?_; rintro x w1 ⟨rfl, hb1⟩)
      | (go_at_call 190; refine (CQ.out _).mono ?_; rintro x w1 ⟨rfl, hb1⟩)
      | (go_at_call 192; refine (CR.out _ ?_).mono ?_; (go_split_ands; assumption); rintro x w1 ⟨rfl, hb1⟩))
  rename_i hS
  have HW := Lib.hid hS.1.low
  clear hS
  go_wp2_with fail
  go_ret
  exact ⟨R.out, HW.out⟩
set_option maxRecDepth 100000 in
set_option maxHeartbeats 8000000 in
theorem told_6t (n : Int) (s : ByteArray) (la : Option Addr) (ll lc : Nat) (L : Nat → V) (fa : Option Addr) (fl fc : Nat) (fn : Nat → ByteArray) (F : Nat → V) (e : Int) (key : ByteArray) (LT RT : ByteArray) (lt rt : List UInt8) (w : World) (he : 1 ≤ e ∧ e ≤ 8)
    (h : ToldArgs w n s la ll lc fa fl fc e key LT RT lt rt) :
    Calls Tryz.prog 171 #[.agg #[.int .u8 6, .int .i64 n, .string s, .slice la ll lc, .slice fa fl fc, .int .u8 e, .string key, .bool true]] w fun x w' => x = .returned (.string ⟨(60 :: (wordL e ++ (32 :: (quotedL s.data.toList ++ (([32, 107, 101, 121, 32] ++ quotedL key.data.toList) ++ (32 :: (rt ++ (32 :: (lt ++ [62]))))))))).toArray⟩) ∧ Below w.heap.size w w' := by
  obtain ⟨Q, h_Q, zQ, CQ0⟩ := quoted_small h.hs
  obtain ⟨Qk, h_Qk, zQk, CQk0⟩ := quoted_small h.hkey
  obtain ⟨D, h_D, zD, CD0⟩ := digits_small h.hn
  have CQ := Lib.hid CQ0
  have CQk := Lib.hid CQk0
  have CD := Lib.hid CD0
  have CL := Lib.hid (fun W (hb : BoxE w (.mk 6 n s la ll lc L fa fl fc fn F e key true) W) => h.aL W hb.low)
  have CR := Lib.hid (fun W (hb : BoxE w (.mk 6 n s la ll lc L fa fl fc fn F e key true) W) => h.aR W hb.low)
  have h_LT := h.sL
  have h_RT := h.sR
  have zLT := h.zL
  have zRT := h.zR
  clear CQ0 CQk0 CD0 h
  have KS := Lib.hid (fun W (hb : BoxE w (.mk 6 n s la ll lc L fa fl fc fn F e key true) W) => And.intro hb (at80 hb.cv))
  have OK0 := Lib.hid (boxE w (.mk 6 n s la ll lc L fa fl fc fn F e key true) 30)
  simp only [V.cells] at OK0
  obtain ⟨Wd, h_Wd, zWd, CW0⟩ := word_small he
  have CW := Lib.hid CW0
  clear CW0
  obtain ⟨K, hK⟩ : ∃ X, (⟨#[32, 107, 101, 121, 32]⟩ : ByteArray) ++ Qk = X := ⟨_, rfl⟩
  have h_K := (IsS.mk [32, 107, 101, 121, 32]).add h_Qk
  rw [hK] at h_K
  have zK : K.size ≤ 8199 := by rw [← hK, ByteArray.size_append]; show 5 + _ ≤ _; omega
  have ka0 : ∀ w, (Op.stringOp .add (⟨#[32, 107, 101, 121, 32]⟩ : ByteArray) Qk).run Tryz.prog w = .ok (.string K) w := fun w => by rw [← hK]; exact run_string_add_sum w _ _ (by rw [← ByteArray.size_append, hK]; omega)
  clear hK
  obtain ⟨X1, hX1⟩ : ∃ X, (⟨#[60]⟩ : ByteArray) ++ Wd = X := ⟨_, rfl⟩
  have iX1 := (IsS.mk [60]).add (h_Wd)
  rw [hX1] at iX1
  have zX1 : X1.size ≤ 260000000 := by rw [← hX1, ByteArray.size_append]; (try show _ + _ ≤ _); (try show 1 + _ ≤ _); omega
  have ka1 : ∀ w, (Op.stringOp .add (⟨#[60]⟩ : ByteArray) Wd).run Tryz.prog w = .ok (.string X1) w := fun w => by rw [← hX1]; exact run_string_add_sum w _ _ (by rw [← ByteArray.size_append, hX1]; omega)
  clear hX1
  obtain ⟨X2, hX2⟩ : ∃ X, X1 ++ (⟨#[32]⟩ : ByteArray) = X := ⟨_, rfl⟩
  have iX2 := (iX1).add (IsS.mk [32])
  rw [hX2] at iX2
  have zX2 : X2.size ≤ 390000000 := by rw [← hX2, ByteArray.size_append]; (try show _ + 1 ≤ _); (try show _ + _ ≤ _); omega
  have ka2 : ∀ w, (Op.stringOp .add X1 (⟨#[32]⟩ : ByteArray)).run Tryz.prog w = .ok (.string X2) w := fun w => by rw [← hX2]; exact run_string_add_sum w _ _ (by rw [← ByteArray.size_append, hX2]; omega)
  clear hX2
  obtain ⟨X3, hX3⟩ : ∃ X, X2 ++ Q = X := ⟨_, rfl⟩
  have iX3 := (iX2).add (h_Q)
  rw [hX3] at iX3
  have zX3 : X3.size ≤ 520000000 := by rw [← hX3, ByteArray.size_append]; (try show _ + _ ≤ _); (try show _ + _ ≤ _); omega
  have ka3 : ∀ w, (Op.stringOp .add X2 Q).run Tryz.prog w = .ok (.string X3) w := fun w => by rw [← hX3]; exact run_string_add_sum w _ _ (by rw [← ByteArray.size_append, hX3]; omega)
  clear hX3
  obtain ⟨X4, hX4⟩ : ∃ X, X3 ++ K = X := ⟨_, rfl⟩
  have iX4 := (iX3).add (h_K)
  rw [hX4] at iX4
  have zX4 : X4.size ≤ 650000000 := by rw [← hX4, ByteArray.size_append]; (try show _ + _ ≤ _); (try show _ + _ ≤ _); omega
  have ka4 : ∀ w, (Op.stringOp .add X3 K).run Tryz.prog w = .ok (.string X4) w := fun w => by rw [← hX4]; exact run_string_add_sum w _ _ (by rw [← ByteArray.size_append, hX4]; omega)
  clear hX4
  obtain ⟨X5, hX5⟩ : ∃ X, X4 ++ (⟨#[32]⟩ : ByteArray) = X := ⟨_, rfl⟩
  have iX5 := (iX4).add (IsS.mk [32])
  rw [hX5] at iX5
  have zX5 : X5.size ≤ 780000000 := by rw [← hX5, ByteArray.size_append]; (try show _ + 1 ≤ _); (try show _ + _ ≤ _); omega
  have ka5 : ∀ w, (Op.stringOp .add X4 (⟨#[32]⟩ : ByteArray)).run Tryz.prog w = .ok (.string X5) w := fun w => by rw [← hX5]; exact run_string_add_sum w _ _ (by rw [← ByteArray.size_append, hX5]; omega)
  clear hX5
  obtain ⟨X6, hX6⟩ : ∃ X, X5 ++ RT = X := ⟨_, rfl⟩
  have iX6 := (iX5).add (h_RT)
  rw [hX6] at iX6
  have zX6 : X6.size ≤ 910000000 := by rw [← hX6, ByteArray.size_append]; (try show _ + _ ≤ _); (try show _ + _ ≤ _); omega
  have ka6 : ∀ w, (Op.stringOp .add X5 RT).run Tryz.prog w = .ok (.string X6) w := fun w => by rw [← hX6]; exact run_string_add_sum w _ _ (by rw [← ByteArray.size_append, hX6]; omega)
  clear hX6
  obtain ⟨X7, hX7⟩ : ∃ X, X6 ++ (⟨#[32]⟩ : ByteArray) = X := ⟨_, rfl⟩
  have iX7 := (iX6).add (IsS.mk [32])
  rw [hX7] at iX7
  have zX7 : X7.size ≤ 1040000000 := by rw [← hX7, ByteArray.size_append]; (try show _ + 1 ≤ _); (try show _ + _ ≤ _); omega
  have ka7 : ∀ w, (Op.stringOp .add X6 (⟨#[32]⟩ : ByteArray)).run Tryz.prog w = .ok (.string X7) w := fun w => by rw [← hX7]; exact run_string_add_sum w _ _ (by rw [← ByteArray.size_append, hX7]; omega)
  clear hX7
  obtain ⟨X8, hX8⟩ : ∃ X, X7 ++ LT = X := ⟨_, rfl⟩
  have iX8 := (iX7).add (h_LT)
  rw [hX8] at iX8
  have zX8 : X8.size ≤ 1170000000 := by rw [← hX8, ByteArray.size_append]; (try show _ + _ ≤ _); (try show _ + _ ≤ _); omega
  have ka8 : ∀ w, (Op.stringOp .add X7 LT).run Tryz.prog w = .ok (.string X8) w := fun w => by rw [← hX8]; exact run_string_add_sum w _ _ (by rw [← ByteArray.size_append, hX8]; omega)
  clear hX8
  obtain ⟨X9, hX9⟩ : ∃ X, X8 ++ (⟨#[62]⟩ : ByteArray) = X := ⟨_, rfl⟩
  have iX9 := (iX8).add (IsS.mk [62])
  rw [hX9] at iX9
  have zX9 : X9.size ≤ 1300000000 := by rw [← hX9, ByteArray.size_append]; (try show _ + 1 ≤ _); (try show _ + _ ≤ _); omega
  have ka9 : ∀ w, (Op.stringOp .add X8 (⟨#[62]⟩ : ByteArray)).run Tryz.prog w = .ok (.string X9) w := fun w => by rw [← hX9]; exact run_string_add_sum w _ _ (by rw [← ByteArray.size_append, hX9]; omega)
  clear hX9
  have R := Lib.hid (show Ending.returned (.string X9) = .returned (.string ⟨(60 :: (wordL e ++ (32 :: (quotedL s.data.toList ++ (([32, 107, 101, 121, 32] ++ quotedL key.data.toList) ++ (32 :: (rt ++ (32 :: (lt ++ [62]))))))))).toArray⟩) from ret_s (by simpa [List.append_assoc] using iX9))
  clear h_Q h_Qk h_D h_LT h_RT h_K h_Wd iX1 iX2 iX3 iX4 iX5 iX6 iX7 iX8 iX9 zX1 zX2 zX3 zX4 zX5 zX6 zX7 zX8 zX9 zLT zRT zQ zQk zD zK zWd he
  go_enter Tryz.func171, Tryz.ntmps171
  go_upto_region 1 with fail
  have OKu := OK0.out
  generalize (w.alloc (.cells #[.int .u8 6, .int .i64 n, .string s, .slice la ll lc, .slice fa fl fc, .int .u8 e, .string key, .bool true] 30)) = W0 at OKu ⊢
  have OK : BoxE w (.mk 6 n s la ll lc L fa fl fc fn F e key true) W0 := OKu
  clear OKu OK0
  obtain ⟨-, c0, c1, c2, c3, c4, c5, c6, c7⟩ := KS.out _ OK
  go_wp2_with (go_at_call 190; refine (CQk.out _).mono ?_; rintro x w1 ⟨rfl, hb1⟩; (have OKn := BoxE.below (by assumption) hb1); clear hb1; obtain ⟨-, c0, c1, c2, c3, c4, c5, c6, c7⟩ := KS.out _ OKn)
  go_region_held3 (fun W => BoxE w (.mk 6 n s la ll lc L fa fl fc fn F e key true) W ∧ W.cell? ⟨w.heap.size, 0, none⟩ = some (.int .u8 6) ∧ W.cell? ⟨w.heap.size, 1, none⟩ = some (.int .i64 n) ∧ W.cell? ⟨w.heap.size, 2, none⟩ = some (.string s) ∧ W.cell? ⟨w.heap.size, 3, none⟩ = some (.slice la ll lc) ∧ W.cell? ⟨w.heap.size, 4, none⟩ = some (.slice fa fl fc) ∧ W.cell? ⟨w.heap.size, 5, none⟩ = some (.int .u8 e) ∧ W.cell? ⟨w.heap.size, 6, none⟩ = some (.string key) ∧ W.cell? ⟨w.heap.size, 7, none⟩ = some (.bool true))
    (first | (refine KS.out _ (BoxE.below OKn ?_); with_reducible exact (Below.refl _ _).drew) | (refine KS.out _ (BoxE.below ?_ (by with_reducible assumption)); go_split_ands; with_reducible assumption) | with_reducible assumption)
    (first
      | (go_at_call 193; refine (CW.out _).mono ?_; rintro x w1 ⟨rfl, hb1⟩)
      | (go_at_call 190; refine (CQ.out _).mono ?_; rintro x w1 ⟨rfl, hb1⟩)
      | (go_at_call 191; refine (CL.out _ ?_).mono ?_; (go_split_ands; assumption); rintro x w1 ⟨rfl, hb1⟩)
      | (go_at_call 192; refine (CR.out _ ?_).mono ?_; (go_split_ands; assumption); rintro x w1 ⟨rfl, hb1⟩))
  rename_i hS
  have HW := Lib.hid hS.1.low
  clear hS
  go_wp2_with fail
  go_ret
  exact ⟨R.out, HW.out⟩
set_option maxRecDepth 100000 in
set_option maxHeartbeats 8000000 in
theorem told_6f (n : Int) (s : ByteArray) (la : Option Addr) (ll lc : Nat) (L : Nat → V) (fa : Option Addr) (fl fc : Nat) (fn : Nat → ByteArray) (F : Nat → V) (e : Int) (key : ByteArray) (LT RT : ByteArray) (lt rt : List UInt8) (w : World) (he : 1 ≤ e ∧ e ≤ 8)
    (h : ToldArgs w n s la ll lc fa fl fc e key LT RT lt rt) :
    Calls Tryz.prog 171 #[.agg #[.int .u8 6, .int .i64 n, .string s, .slice la ll lc, .slice fa fl fc, .int .u8 e, .string key, .bool false]] w fun x w' => x = .returned (.string ⟨(60 :: (wordL e ++ (32 :: (quotedL s.data.toList ++ (([] : List UInt8) ++ (32 :: (rt ++ (32 :: (lt ++ [62]))))))))).toArray⟩) ∧ Below w.heap.size w w' := by
  obtain ⟨Q, h_Q, zQ, CQ0⟩ := quoted_small h.hs
  obtain ⟨Qk, h_Qk, zQk, CQk0⟩ := quoted_small h.hkey
  obtain ⟨D, h_D, zD, CD0⟩ := digits_small h.hn
  have CQ := Lib.hid CQ0
  have CQk := Lib.hid CQk0
  have CD := Lib.hid CD0
  have CL := Lib.hid (fun W (hb : BoxE w (.mk 6 n s la ll lc L fa fl fc fn F e key false) W) => h.aL W hb.low)
  have CR := Lib.hid (fun W (hb : BoxE w (.mk 6 n s la ll lc L fa fl fc fn F e key false) W) => h.aR W hb.low)
  have h_LT := h.sL
  have h_RT := h.sR
  have zLT := h.zL
  have zRT := h.zR
  clear CQ0 CQk0 CD0 h
  have KS := Lib.hid (fun W (hb : BoxE w (.mk 6 n s la ll lc L fa fl fc fn F e key false) W) => And.intro hb (at80 hb.cv))
  have OK0 := Lib.hid (boxE w (.mk 6 n s la ll lc L fa fl fc fn F e key false) 30)
  simp only [V.cells] at OK0
  obtain ⟨Wd, h_Wd, zWd, CW0⟩ := word_small he
  have CW := Lib.hid CW0
  clear CW0
  obtain ⟨K, hK⟩ : ∃ X, (⟨#[]⟩ : ByteArray) = X := ⟨_, rfl⟩
  have h_K := IsS.mk []
  rw [show ((⟨([] : List UInt8).toArray⟩ : ByteArray)) = K from hK] at h_K
  have zK : K.size ≤ 8199 := by rw [← hK]; show 0 ≤ _; omega
  have HK := Lib.hid hK
  clear hK
  obtain ⟨X1, hX1⟩ : ∃ X, (⟨#[60]⟩ : ByteArray) ++ Wd = X := ⟨_, rfl⟩
  have iX1 := (IsS.mk [60]).add (h_Wd)
  rw [hX1] at iX1
  have zX1 : X1.size ≤ 260000000 := by rw [← hX1, ByteArray.size_append]; (try show _ + _ ≤ _); (try show 1 + _ ≤ _); omega
  have ka1 : ∀ w, (Op.stringOp .add (⟨#[60]⟩ : ByteArray) Wd).run Tryz.prog w = .ok (.string X1) w := fun w => by rw [← hX1]; exact run_string_add_sum w _ _ (by rw [← ByteArray.size_append, hX1]; omega)
  clear hX1
  obtain ⟨X2, hX2⟩ : ∃ X, X1 ++ (⟨#[32]⟩ : ByteArray) = X := ⟨_, rfl⟩
  have iX2 := (iX1).add (IsS.mk [32])
  rw [hX2] at iX2
  have zX2 : X2.size ≤ 390000000 := by rw [← hX2, ByteArray.size_append]; (try show _ + 1 ≤ _); (try show _ + _ ≤ _); omega
  have ka2 : ∀ w, (Op.stringOp .add X1 (⟨#[32]⟩ : ByteArray)).run Tryz.prog w = .ok (.string X2) w := fun w => by rw [← hX2]; exact run_string_add_sum w _ _ (by rw [← ByteArray.size_append, hX2]; omega)
  clear hX2
  obtain ⟨X3, hX3⟩ : ∃ X, X2 ++ Q = X := ⟨_, rfl⟩
  have iX3 := (iX2).add (h_Q)
  rw [hX3] at iX3
  have zX3 : X3.size ≤ 520000000 := by rw [← hX3, ByteArray.size_append]; (try show _ + _ ≤ _); (try show _ + _ ≤ _); omega
  have ka3 : ∀ w, (Op.stringOp .add X2 Q).run Tryz.prog w = .ok (.string X3) w := fun w => by rw [← hX3]; exact run_string_add_sum w _ _ (by rw [← ByteArray.size_append, hX3]; omega)
  clear hX3
  obtain ⟨X4, hX4⟩ : ∃ X, X3 ++ K = X := ⟨_, rfl⟩
  have iX4 := (iX3).add (h_K)
  rw [hX4] at iX4
  have zX4 : X4.size ≤ 650000000 := by rw [← hX4, ByteArray.size_append]; (try show _ + _ ≤ _); (try show _ + _ ≤ _); omega
  have ka4 : ∀ w, (Op.stringOp .add X3 K).run Tryz.prog w = .ok (.string X4) w := fun w => by rw [← hX4]; exact run_string_add_sum w _ _ (by rw [← ByteArray.size_append, hX4]; omega)
  clear hX4
  obtain ⟨X5, hX5⟩ : ∃ X, X4 ++ (⟨#[32]⟩ : ByteArray) = X := ⟨_, rfl⟩
  have iX5 := (iX4).add (IsS.mk [32])
  rw [hX5] at iX5
  have zX5 : X5.size ≤ 780000000 := by rw [← hX5, ByteArray.size_append]; (try show _ + 1 ≤ _); (try show _ + _ ≤ _); omega
  have ka5 : ∀ w, (Op.stringOp .add X4 (⟨#[32]⟩ : ByteArray)).run Tryz.prog w = .ok (.string X5) w := fun w => by rw [← hX5]; exact run_string_add_sum w _ _ (by rw [← ByteArray.size_append, hX5]; omega)
  clear hX5
  obtain ⟨X6, hX6⟩ : ∃ X, X5 ++ RT = X := ⟨_, rfl⟩
  have iX6 := (iX5).add (h_RT)
  rw [hX6] at iX6
  have zX6 : X6.size ≤ 910000000 := by rw [← hX6, ByteArray.size_append]; (try show _ + _ ≤ _); (try show _ + _ ≤ _); omega
  have ka6 : ∀ w, (Op.stringOp .add X5 RT).run Tryz.prog w = .ok (.string X6) w := fun w => by rw [← hX6]; exact run_string_add_sum w _ _ (by rw [← ByteArray.size_append, hX6]; omega)
  clear hX6
  obtain ⟨X7, hX7⟩ : ∃ X, X6 ++ (⟨#[32]⟩ : ByteArray) = X := ⟨_, rfl⟩
  have iX7 := (iX6).add (IsS.mk [32])
  rw [hX7] at iX7
  have zX7 : X7.size ≤ 1040000000 := by rw [← hX7, ByteArray.size_append]; (try show _ + 1 ≤ _); (try show _ + _ ≤ _); omega
  have ka7 : ∀ w, (Op.stringOp .add X6 (⟨#[32]⟩ : ByteArray)).run Tryz.prog w = .ok (.string X7) w := fun w => by rw [← hX7]; exact run_string_add_sum w _ _ (by rw [← ByteArray.size_append, hX7]; omega)
  clear hX7
  obtain ⟨X8, hX8⟩ : ∃ X, X7 ++ LT = X := ⟨_, rfl⟩
  have iX8 := (iX7).add (h_LT)
  rw [hX8] at iX8
  have zX8 : X8.size ≤ 1170000000 := by rw [← hX8, ByteArray.size_append]; (try show _ + _ ≤ _); (try show _ + _ ≤ _); omega
  have ka8 : ∀ w, (Op.stringOp .add X7 LT).run Tryz.prog w = .ok (.string X8) w := fun w => by rw [← hX8]; exact run_string_add_sum w _ _ (by rw [← ByteArray.size_append, hX8]; omega)
  clear hX8
  obtain ⟨X9, hX9⟩ : ∃ X, X8 ++ (⟨#[62]⟩ : ByteArray) = X := ⟨_, rfl⟩
  have iX9 := (iX8).add (IsS.mk [62])
  rw [hX9] at iX9
  have zX9 : X9.size ≤ 1300000000 := by rw [← hX9, ByteArray.size_append]; (try show _ + 1 ≤ _); (try show _ + _ ≤ _); omega
  have ka9 : ∀ w, (Op.stringOp .add X8 (⟨#[62]⟩ : ByteArray)).run Tryz.prog w = .ok (.string X9) w := fun w => by rw [← hX9]; exact run_string_add_sum w _ _ (by rw [← ByteArray.size_append, hX9]; omega)
  clear hX9
  have R := Lib.hid (show Ending.returned (.string X9) = .returned (.string ⟨(60 :: (wordL e ++ (32 :: (quotedL s.data.toList ++ (([] : List UInt8) ++ (32 :: (rt ++ (32 :: (lt ++ [62]))))))))).toArray⟩) from ret_s (by simpa [List.append_assoc] using iX9))
  clear h_Q h_Qk h_D h_LT h_RT h_K h_Wd iX1 iX2 iX3 iX4 iX5 iX6 iX7 iX8 iX9 zX1 zX2 zX3 zX4 zX5 zX6 zX7 zX8 zX9 zLT zRT zQ zQk zD zK zWd he
  go_enter Tryz.func171, Tryz.ntmps171
  go_upto_region 1 with fail
  have OKu := OK0.out
  generalize (w.alloc (.cells #[.int .u8 6, .int .i64 n, .string s, .slice la ll lc, .slice fa fl fc, .int .u8 e, .string key, .bool false] 30)) = W0 at OKu ⊢
  have OK : BoxE w (.mk 6 n s la ll lc L fa fl fc fn F e key false) W0 := OKu
  clear OKu OK0
  obtain ⟨-, c0, c1, c2, c3, c4, c5, c6, c7⟩ := KS.out _ OK
  go_wp2_with fail
  rw [HK.out]
  go_region_held3 (fun W => BoxE w (.mk 6 n s la ll lc L fa fl fc fn F e key false) W ∧ W.cell? ⟨w.heap.size, 0, none⟩ = some (.int .u8 6) ∧ W.cell? ⟨w.heap.size, 1, none⟩ = some (.int .i64 n) ∧ W.cell? ⟨w.heap.size, 2, none⟩ = some (.string s) ∧ W.cell? ⟨w.heap.size, 3, none⟩ = some (.slice la ll lc) ∧ W.cell? ⟨w.heap.size, 4, none⟩ = some (.slice fa fl fc) ∧ W.cell? ⟨w.heap.size, 5, none⟩ = some (.int .u8 e) ∧ W.cell? ⟨w.heap.size, 6, none⟩ = some (.string key) ∧ W.cell? ⟨w.heap.size, 7, none⟩ = some (.bool false))
    (first | (refine KS.out _ (BoxE.below (W := W0) OK ?_); with_reducible exact (Below.refl _ _).drew) | (refine KS.out _ (BoxE.below ?_ (by with_reducible assumption)); go_split_ands; with_reducible assumption) | with_reducible assumption)
    (first
      | (go_at_call 193; refine (CW.out _).mono ?_; rintro x w1 ⟨rfl, hb1⟩)
      | (go_at_call 190; refine (CQ.out _).mono ?_; rintro x w1 ⟨rfl, hb1⟩)
      | (go_at_call 191; refine (CL.out _ ?_).mono ?_; (go_split_ands; assumption); rintro x w1 ⟨rfl, hb1⟩)
      | (go_at_call 192; refine (CR.out _ ?_).mono ?_; (go_split_ands; assumption); rintro x w1 ⟨rfl, hb1⟩))
  rename_i hS
  have HW := Lib.hid hS.1.low
  clear hS
  go_wp2_with fail
  go_ret
  exact ⟨R.out, HW.out⟩
end Go.Proofs.YtmhemajcnfcdmaaGreatDoor
namespace Go.Proofs.YtmhemajcnfcdmaaGreatDoor
open Go.RowKit
theorem told_is : ∀ v : V, TIs v := by
  intro v
  induction v with
  | leaf => exact fun h => h.elim
  | mk k n s la ll lc L fa fl fc fn F e key hk ihL ihF =>
  intro hsh hsz w hin
  have hin2 := hin
  have hsh2 := hsh
  obtain ⟨hk0, hn, -, -, -, hl1, hf1, hL, hF⟩ := hin2
  obtain ⟨ho, sL, sF⟩ := hsh2
  obtain ⟨l1, l2, l3, l4⟩ := inLim_of ho
  have hs4 : s.size ≤ 4096 := by simpa using l1
  have hk4 : key.size ≤ 4096 := by simpa using l2
  have hz : 1 + sumTo ll (fun i => (L i).size) + sumTo fl (fun i => (F i).size) ≤ 4096 := hsz
  have A : ToldArgs w n s la ll lc fa fl fc e key ⟨(listL ll (fun i => (L i).told)).toArray⟩ ⟨(recL fl fn (fun i => (F i).told)).toArray⟩ (listL ll (fun i => (L i).told)) (recL fl fn (fun i => (F i).told)) := by
    refine ⟨hn, hs4, hk4, fun W hb => ?_, fun W hb => ?_, IsS.mk _, IsS.mk _, ?_, ?_⟩
    · exact rlist_any la ll lc L (fun i _ => ihL i) sL (by omega) W hl1 (fun i hi => ⟨let ⟨b, o, e1, ha⟩ := (hL i hi).1; ⟨b, o, e1, ha.below hb⟩, (hL i hi).2.below hb⟩)
    · exact rrecord_any fa fl fc fn F (fun i _ => ihF i) sF (by omega) (fun i hi => by have := rising_lim l4 i hi; simpa using this) W hf1 (fun i hi => ⟨let ⟨b, o, e1, ha⟩ := (hF i hi).1; ⟨b, o, e1, ha.below hb⟩, (hF i hi).2.1, (hF i hi).2.2.below hb⟩)
    · have h1 := sep_bound (Nat.le_refl ll) (f := fun i => (L i).told) (z := fun i => (L i).size) (fun i hi => by
        have := told_length (L i) (sL i hi) (hL i hi).2.nums
        omega) (by omega)
      show (listL ll (fun i => (L i).told)).toArray.size ≤ _
      simp only [listL, List.size_toArray, List.length_cons, List.length_append, List.length_nil]
      omega
    · have h1 := sep_bound (Nat.le_refl fl) (f := fun i => quotedL (fn i).data.toList ++ (32 :: (F i).told)) (z := fun i => (F i).size) (fun i hi => by
        have h2 := told_length (F i) (sF i hi) (hF i hi).2.2.nums
        have h3 := quotedL_length (fn i).data.toList
        have h4 := rising_lim l4 i hi
        simp only [List.length_append, List.length_cons]
        omega) (by omega)
      show (recL fl fn (fun i => (F i).told)).toArray.size ≤ _
      simp only [recL, List.size_toArray, List.length_cons, List.length_append, List.length_nil]
      omega
  obtain ⟨h8, h6⟩ := row_lt l3
  clear hL hF ihL ihF sL sF hsh hin
  obtain rfl | rfl | rfl | rfl | rfl | rfl | rfl | rfl : k = 0 ∨ k = 1 ∨ k = 2 ∨ k = 3 ∨ k = 4 ∨ k = 5 ∨ k = 6 ∨ k = 7 := by omega
  · exact told_0 n s la ll lc L fa fl fc fn F e key hk _ _ _ _ w A
  · exact told_1 n s la ll lc L fa fl fc fn F e key hk _ _ _ _ w A
  · exact told_2 n s la ll lc L fa fl fc fn F e key hk _ _ _ _ w A
  · exact told_3 n s la ll lc L fa fl fc fn F e key hk _ _ _ _ w A
  · exact told_4 n s la ll lc L fa fl fc fn F e key hk _ _ _ _ w A
  · exact told_5 n s la ll lc L fa fl fc fn F e key hk _ _ _ _ w A
  · cases hk
    · exact told_6f n s la ll lc L fa fl fc fn F e key _ _ _ _ w (elem_range (h6 rfl)) A
    · exact told_6t n s la ll lc L fa fl fc fn F e key _ _ _ _ w (elem_range (h6 rfl)) A
  · exact told_7 n s la ll lc L fa fl fc fn F e key hk _ _ _ _ w A
set_option maxRecDepth 100000 in
set_option maxHeartbeats 4000000 in
theorem rtext_any (v : V) (w : World) (hin : v.In w) (hsz : v.size ≤ 1099511627776) :
    Calls Tryz.prog 150 #[v.agg] w fun x w' => x = .returned (.string v.text) ∧ Below w.heap.size w w' := by
  have CC := Lib.hid (fun W (h : BoxE w v W) => rcheck_any v W (hin.below h.low) hsz)
  have OK0 := Lib.hid (boxE w v 30)
  have CT : Hid (v.check = true → ∀ W, BoxE w v W → Calls Tryz.prog 171 #[v.agg] W fun e w' => e = .returned (.string v.text) ∧ Below W.heap.size W w') := fun hc W h => by
    obtain ⟨h1, h2, h3⟩ := (check_iff v).1 hc
    rw [V.text, if_pos hc]
    exact told_is v h1 h2 W (hin.below h.low)
  have HN := Lib.hid (show v.check = false → v.text = ⟨#[]⟩ from fun h => by rw [V.text, h]; rfl)
  cases v with
  | leaf => exact hin.elim
  | mk k n s la ll lc L fa fl fc fn F e key hk =>
  have KS := Lib.hid (fun W (h : BoxE w (.mk k n s la ll lc L fa fl fc fn F e key hk) W) => at80 h.cv)
  generalize (V.mk k n s la ll lc L fa fl fc fn F e key hk).check = q at CC CT HN
  generalize (V.mk k n s la ll lc L fa fl fc fn F e key hk).text = tx at CT HN ⊢
  clear hin hsz
  simp only [V.agg, V.cells] at CC CT OK0 ⊢
  go_enter Tryz.func150, Tryz.ntmps150
  go_upto_region 1 with fail
  have OKu := OK0.out
  generalize (w.alloc (.cells #[.int .u8 k, .int .i64 n, .string s, .slice la ll lc, .slice fa fl fc, .int .u8 e, .string key, .bool hk] 30)) = W0 at OKu ⊢
  have OK := Lib.hid (show BoxE w (.mk k n s la ll lc L fa fl fc fn F e key hk) W0 from OKu)
  clear OKu OK0
  obtain ⟨c0, c1, c2, c3, c4, c5, c6, c7⟩ := KS.out _ OK.out
  go_wp2_with fail
  refine (CC.out _ OK.out).mono ?_
  rintro x w1 ⟨rfl, hb1⟩
  have OK1 := Lib.hid (OK.out.below hb1)
  clear hb1 c0 c1 c2 c3 c4 c5 c6 c7
  obtain ⟨c0, c1, c2, c3, c4, c5, c6, c7⟩ := KS.out _ OK1.out
  cases q
  · obtain rfl := HN.out (by simp)
    go_wp2_with fail
    go_ret
    exact ⟨rfl, OK1.out.low⟩
  · have CT2 := Lib.hid (CT.out (by simp))
    go_wp2_with fail
    refine (CT2.out _ OK1.out).mono ?_
    rintro x w2 ⟨rfl, hb2⟩
    have HW := Lib.hid (OK1.out.below hb2).low
    clear hb2 c0 c1 c2 c3 c4 c5 c6 c7
    go_wp2_with fail
    go_ret
    exact ⟨rfl, HW.out⟩
end Go.Proofs.YtmhemajcnfcdmaaGreatDoor
