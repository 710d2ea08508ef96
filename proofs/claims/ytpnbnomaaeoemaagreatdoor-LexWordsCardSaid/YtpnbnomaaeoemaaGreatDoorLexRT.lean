/-
  Walks: the document's answer for layer 3: text.
  Conditions: texts no longer than the reach.
-/
import Derived.Test.YtpnbnomaaeoemaaGreatDoorLexBL
import Derived.Test.YtpnbnomaaeoemaaGreatDoorLexRA
namespace Go.Proofs.YtpnbnomaaeoemaaGreatDoor
open Go.RowKit

/-- The state at the loop's head: so many bytes are read, that is what they stand for. -/
def TxS (l : List UInt8) (n : Nat) (acc : List UInt8) : Prop := n ≤ l.length ∧ (LX.txt false l).1 = n + (LX.txt false (l.drop n)).1 ∧ (LX.txt false l).2 = acc ++ (LX.txt false (l.drop n)).2
theorem TxS.zero (l : List UInt8) : TxS l 0 [] := ⟨by omega, by simp, by simp⟩
theorem TxS.one {l acc : List UInt8} {n : Nat} {c : UInt8} {t : List UInt8} (h : TxS l n acc) (hc : l.drop n = c :: t) (h1 : ¬ c.toNat = 92) (h2 : ¬ (c.toNat = 34 ∨ c.toNat = 10)) : TxS l (n + 1) (acc ++ [c]) := by
  have e : LX.txt false (c :: t) = ((LX.txt false t).1 + 1, c :: (LX.txt false t).2) := by simp only [LX.txt, h1, h2, if_false]
  have hd : l.drop (n + 1) = t := by rw [← List.drop_drop, hc]; rfl
  have hn : n < l.length := by
    rcases Nat.lt_or_ge n l.length with h | h
    · exact h
    · rw [List.drop_of_length_le h] at hc; cases hc
  obtain ⟨k1, k2, k3⟩ := h
  rw [hc, e] at k2 k3
  refine ⟨by omega, ?_, ?_⟩
  · rw [k2, hd]; simp only; omega
  · rw [k3, hd, List.append_assoc]; rfl
theorem TxS.two {l acc : List UInt8} {n : Nat} {c d e : UInt8} {t : List UInt8} (h : TxS l n acc) (hc : l.drop n = c :: d :: t) (h1 : c.toNat = 92) (h2 : LX.stands d = some e) : TxS l (n + 2) (acc ++ [e]) := by
  have e1 : LX.txt false (c :: d :: t) = ((LX.txt false t).1 + 1 + 1, e :: (LX.txt false t).2) := by simp only [LX.txt, h1, if_true, h2]
  have hd : l.drop (n + 2) = t := by rw [← List.drop_drop, hc]; rfl
  have hn : n + 1 < l.length := by
    rcases Nat.lt_or_ge (n + 1) l.length with h | h
    · exact h
    · have : (l.drop n).length ≤ 1 := by rw [List.length_drop]; omega
      rw [hc] at this; simp at this
  obtain ⟨k1, k2, k3⟩ := h
  rw [hc, e1] at k2 k3
  refine ⟨by omega, ?_, ?_⟩
  · rw [k2, hd]; simp only; omega
  · rw [k3, hd, List.append_assoc]; rfl
/-- What text answers. -/
def PostTx (l : List UInt8) (k : Nat) (w : World) (e : Ending) (w' : World) : Prop :=
  (if (l.drop (LX.txt false l).1).head? = some 34 ∧ (LX.txt false l).2.length ≤ 4096 then e = .returned (.tuple #[.string ⟨(LX.txt false l).2.toArray⟩, .int .i64 (k + (LX.txt false l).1 + 1 : Nat), .bool true])
  else ∃ x n, e = .returned (.tuple #[.string x, .int .i64 n, .bool false])) ∧ Below w.heap.size w w'
theorem PostTx.no {l : List UInt8} {k : Nat} {w w' : World} (h : ¬ ((l.drop (LX.txt false l).1).head? = some 34 ∧ (LX.txt false l).2.length ≤ 4096)) (hb : Below w.heap.size w w') (x : ByteArray) (n : Int) : PostTx l k w (.returned (.tuple #[.string x, .int .i64 n, .bool false])) w' := ⟨by rw [if_neg h]; exact ⟨x, n, rfl⟩, hb⟩
/-- Where the loop ends. -/
theorem TxS.stop {l acc : List UInt8} {n : Nat} (h : TxS l n acc) (hc : l.drop n = [] ∨ ∃ c t, l.drop n = c :: t ∧ (c.toNat = 34 ∨ c.toNat = 10)) : (LX.txt false l).1 = n ∧ (LX.txt false l).2 = acc := by
  obtain ⟨k1, k2, k3⟩ := h
  rcases hc with hc | ⟨c, t, hc, hx⟩
  · rw [hc] at k2 k3
    exact ⟨by simpa [LX.txt] using k2, by simpa [LX.txt] using k3⟩
  · have h1 : ¬ c.toNat = 92 := by omega
    have e : LX.txt false (c :: t) = (0, []) := by simp only [LX.txt, h1, hx, if_true, if_false]
    rw [hc, e] at k2 k3
    exact ⟨by simpa using k2, by simpa using k3⟩
theorem TxS.esc_no {l acc : List UInt8} {n : Nat} {c : UInt8} {t : List UInt8} (h : TxS l n acc) (hc : l.drop n = c :: t) (h1 : c.toNat = 92) (hd : t = [] ∨ ∃ d u, t = d :: u ∧ LX.stands d = none) : ¬ ((l.drop (LX.txt false l).1).head? = some 34 ∧ (LX.txt false l).2.length ≤ 4096) := by
  obtain ⟨k1, k2, k3⟩ := h
  have e : (LX.txt false (c :: t)).1 = 1 := by
    rcases hd with rfl | ⟨d, u, rfl, hs⟩
    · simp only [LX.txt, h1, if_true]
    · simp only [LX.txt, h1, if_true, hs]
  rw [hc, e] at k2
  have hdr : l.drop (n + 1) = t := by rw [← List.drop_drop, hc]; rfl
  rw [k2, hdr]
  rintro ⟨h34, -⟩
  rcases hd with rfl | ⟨d, u, rfl, hs⟩
  · simp at h34
  · simp at h34
    subst h34
    exact absurd hs (by decide)

set_option maxRecDepth 100000 in
set_option maxHeartbeats 8000000 in
theorem rtext_any (s : ByteArray) (k : Nat) (w : World) (hs : s.size ≤ 65536) (hk : k ≤ s.size) :
    Calls Tryz.prog 138 #[.string s, .int .i64 k] w (PostTx (s.data.toList.drop k) k w) := by
  have hlen : s.data.toList.length = s.size := by simp
  have HST := Lib.hid (BL.start w)
  have HZ := Lib.hid (TxS.zero (s.data.toList.drop k))
  have HDC : Hid (∀ n (h : k + n < s.size), (s.data.toList.drop k).drop n = (s[k + n]'h) :: (s.data.toList.drop k).drop (n + 1)) := fun n h => by
    rw [List.drop_drop, List.drop_eq_getElem_cons (by omega), get_list s _ h, List.drop_drop, Nat.add_assoc]
  have HE : Hid (∀ n, k + n = s.size → (s.data.toList.drop k).drop n = []) := fun n h => by rw [List.drop_drop]; exact List.drop_of_length_le (by omega)
  have hll : (s.data.toList.drop k).length = s.size - k := by rw [List.length_drop, hlen]
  have HLL := Lib.hid hll
  clear hll
  generalize s.data.toList.drop k = l at HZ HDC HE HLL ⊢
  clear hlen
  go_enter Tryz.func138, Tryz.ntmps138
  go_wp2
  go_loopw [1, 7] (fun i b wr => ∃ (n : Nat) (acc : List UInt8) (ao : Option Addr) (m cap : Nat), i = .int .i64 (k + n : Nat) ∧ b = .slice ao m cap ∧ TxS l n acc ∧ m ≤ n ∧ BL w acc (.slice ao m cap) m wr) (fun i _ _ => s.size - (intOf i).toNat)
  case atStart => exact ⟨0, [], none, 0, 0, rfl, rfl, HZ.out, Nat.le_refl _, HST.out⟩
  case round =>
    obtain ⟨n, acc, ao, m, cap, rfl, rfl, htx, hmn, hbl⟩ := hrel
    have HTx := Lib.hid htx
    have HB := Lib.hid hbl
    have hnl := htx.1
    rw [HLL.out] at hnl
    clear htx hbl
    by_cases hlt : k + n < s.size
    · have hdc := HDC.out n hlt
      have HDc := Lib.hid hdc
      clear hdc
      obtain ⟨c, hc⟩ : ∃ c, s[k + n]'hlt = c := ⟨_, rfl⟩
      rw [hc] at HDc
      by_cases h10 : c.toNat = 10
      · have hst := HTx.out.stop (.inr ⟨c, _, HDc.out, .inr h10⟩)
        have hno : ¬ ((l.drop (LX.txt false l).1).head? = some 34 ∧ (LX.txt false l).2.length ≤ 4096) := by
          rw [hst.1, HDc.out]
          rintro ⟨h, -⟩
          simp at h
          subst h
          exact absurd h10 (by decide)
        have HN := Lib.hid hno
        have t1 : (((s[k + n]'hlt).toNat : Int) != 10) = false := by rw [hc, bne_eq_false_iff_eq]; omega
        clear hst hno h10 hc
        go_wp2
        go_ret3
        exact PostTx.no HN.out HB.out.low _ _
      have t1 : (((s[k + n]'hlt).toNat : Int) != 10) = true := by rw [hc, bne_iff_ne]; omega
      by_cases h34 : c.toNat = 34
      · have hst := HTx.out.stop (.inr ⟨c, _, HDc.out, .inl h34⟩)
        have t2 : (((s[k + n]'hlt).toNat : Int) == 34) = true := by rw [hc, beq_iff_eq]; omega
        have kc := conv_any HB.out
        have hml : m = acc.length := HB.out.len
        have hc34 : c = 34 := by rw [← UInt8.toNat_inj]; exact h34
        by_cases h4 : acc.length ≤ 4096
        · have g4 : (m : Int) ≤ 4096 := by omega
          have hp : ∀ w', Below w.heap.size w w' → PostTx l k w (.returned (.tuple #[.string ⟨acc.toArray⟩, .int .i64 (k + n + 1 : Nat), .bool true])) w' := fun w' hb => by
            refine ⟨?_, hb⟩
            rw [hst.1, hst.2, if_pos ⟨by rw [HDc.out, hc34]; rfl, h4⟩]
          have HP := Lib.hid hp
          clear hst h34 hml hc34 h4 hp hc
          go_wp2
          go_ret3
          exact HP.out _ HB.out.low
        · have g4 : decide ((m : Int) ≤ 4096) = false := by rw [decide_eq_false_iff_not]; omega
          have hno : ¬ ((l.drop (LX.txt false l).1).head? = some 34 ∧ (LX.txt false l).2.length ≤ 4096) := by
            rw [hst.2]; exact fun h => h4 h.2
          have HN := Lib.hid hno
          clear hst h34 hml hc34 h4 hno hc
          go_wp2
          go_ret3
          exact PostTx.no HN.out HB.out.low _ _
      have t2 : (((s[k + n]'hlt).toNat : Int) == 34) = false := by rw [hc, beq_eq_false_iff_ne]; omega
      by_cases h92 : c.toNat = 92
      · have t3 : (((s[k + n]'hlt).toNat : Int) == 92) = true := by rw [hc, beq_iff_eq]; omega
        by_cases hl2 : k + n + 1 < s.size
        · have t4 : ((k : Int) + (n : Int) + 1 == (s.size : Int)) = false := by rw [beq_eq_false_iff_ne]; omega
          have hd2 := HDC.out (n + 1) hl2
          have h2 := HDc.out
          rw [hd2] at h2
          have HD2 := Lib.hid h2
          clear hd2 h2
          obtain ⟨d, hd⟩ : ∃ d, s[k + (n + 1)]'hl2 = d := ⟨_, rfl⟩
          have hdd : s[k + n + 1]'hl2 = d := hd
          rw [hd] at HD2
          clear hd
          by_cases d34 : d.toNat = 34
          · have u1 : (((s[k + n + 1]'hl2).toNat : Int) == 34) = true := by rw [hdd, beq_iff_eq]; omega
            have htx := HTx.out.two HD2.out h92 (show LX.stands d = some d by simp [LX.stands, d34])
            rw [← hdd] at htx
            have HTn := Lib.hid htx
            clear h92 h34 h10 htx d34 hdd hc
            go_wp2_with (at_builtin; refine append_B HB.out rfl _ _ rfl rfl [s[k + n + 1]'hl2] 1 _ _ rfl rfl (by omega) rfl (by omega) ?_)
            intro g1 cap1 W1 hbl1
            have HB1 := Lib.hid hbl1
            clear hbl1
            go_wp2_with fail
            go_roundw
            case rel => exact ⟨n + 2, _, _, _, _, by go_num, rfl, HTn.out, by omega, HB1.out⟩
            case measure => simp [intOf]; omega
          have u1 : (((s[k + n + 1]'hl2).toNat : Int) == 34) = false := by rw [hdd, beq_eq_false_iff_ne]; omega
          by_cases d92 : d.toNat = 92
          · have u2 : (((s[k + n + 1]'hl2).toNat : Int) == 92) = true := by rw [hdd, beq_iff_eq]; omega
            have htx := HTx.out.two HD2.out h92 (show LX.stands d = some d by simp [LX.stands, d92])
            rw [← hdd] at htx
            have HTn := Lib.hid htx
            clear h92 h34 h10 htx d92 hdd hc
            go_wp2_with (at_builtin; refine append_B HB.out rfl _ _ rfl rfl [s[k + n + 1]'hl2] 1 _ _ rfl rfl (by omega) rfl (by omega) ?_)
            intro g1 cap1 W1 hbl1
            have HB1 := Lib.hid hbl1
            clear hbl1
            go_wp2_with fail
            go_roundw
            case rel => exact ⟨n + 2, _, _, _, _, by go_num, rfl, HTn.out, by omega, HB1.out⟩
            case measure => simp [intOf]; omega
          have u2 : (((s[k + n + 1]'hl2).toNat : Int) == 92) = false := by rw [hdd, beq_eq_false_iff_ne]; omega
          by_cases d110 : d.toNat = 110
          · have u3 : (((s[k + n + 1]'hl2).toNat : Int) == 110) = true := by rw [hdd, beq_iff_eq]; omega
            have htx := HTx.out.two HD2.out h92 (show LX.stands d = some 10 by simp [LX.stands, d110])
            have HTn := Lib.hid htx
            clear h92 h34 h10 htx d110 hdd hc
            go_wp2_with (at_builtin; refine append_B HB.out rfl _ _ rfl rfl [10] 1 _ _ rfl rfl (by omega) rfl (by omega) ?_)
            intro g1 cap1 W1 hbl1
            have HB1 := Lib.hid hbl1
            clear hbl1
            go_wp2_with fail
            go_roundw
            case rel => exact ⟨n + 2, _, _, _, _, by go_num, rfl, HTn.out, by omega, HB1.out⟩
            case measure => simp [intOf]; omega
          · have u3 : (((s[k + n + 1]'hl2).toNat : Int) == 110) = false := by rw [hdd, beq_eq_false_iff_ne]; omega
            have hno := HTx.out.esc_no HD2.out h92 (.inr ⟨d, _, rfl, by simp [LX.stands, d34, d92, d110]⟩)
            have HN := Lib.hid hno
            clear h92 hno h34 h10 hc d34 d92 d110 hdd
            go_wp2
            go_ret3
            exact PostTx.no HN.out HB.out.low _ _
        · have t4 : ((k : Int) + (n : Int) + 1 == (s.size : Int)) = true := by rw [beq_iff_eq]; omega
          have hno := HTx.out.esc_no HDc.out h92 (.inl (HE.out (n + 1) (by omega)))
          have HN := Lib.hid hno
          clear h92 hno h34 h10 hc
          go_wp2
          go_ret3
          exact PostTx.no HN.out HB.out.low _ _
      · have t3 : (((s[k + n]'hlt).toNat : Int) == 92) = false := by rw [hc, beq_eq_false_iff_ne]; omega
        have htx := HTx.out.one HDc.out h92 (by omega)
        have HTn := Lib.hid htx
        rw [← hc] at HTn
        clear h92 h34 h10 hc htx
        go_wp2_with (at_builtin; refine append_B HB.out rfl _ _ rfl rfl [s[k + n]'hlt] 1 _ _ rfl rfl (by omega) rfl (by omega) ?_)
        intro g1 cap1 W1 hbl1
        have HB1 := Lib.hid hbl1
        clear hbl1
        go_wp2_with fail
        go_roundw
        case rel => exact ⟨n + 1, _, _, _, _, by go_num, rfl, HTn.out, by omega, HB1.out⟩
        case measure => simp [intOf]; omega
    · have hno : ¬ ((l.drop (LX.txt false l).1).head? = some 34 ∧ (LX.txt false l).2.length ≤ 4096) := by
        have he := HE.out n (by omega)
        rw [(HTx.out.stop (.inl he)).1, he]
        simp
      have HN := Lib.hid hno
      clear hno
      go_wp2
      go_ret3
      exact PostTx.no HN.out HB.out.low _ _
end Go.Proofs.YtpnbnomaaeoemaaGreatDoor
