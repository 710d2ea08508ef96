/-
  Walks: (*reader).text.
  Conditions: the reader lies in block R; its text is no longer than the reach, and begins with a quote.
-/
import Derived.Test.YtedmmgfnplbkjaaGreatDoorLexT
namespace Go.Proofs.YtedmmgfnplbkjaaGreatDoor
open Go.RowKit
def K2 (R m : Nat) (w w' : World) : Prop := Below R w w' ∧ ∀ k, R < k → k < m → w'.heap[k]? = w.heap[k]?
theorem K2.refl (R m : Nat) (w : World) : K2 R m w w := ⟨Below.refl _ _, fun _ _ _ => rfl⟩
theorem K2.trans {R m : Nat} {a b c : World} (h : K2 R m a b) (k : K2 R m b c) : K2 R m a c := ⟨h.1.trans k.1, fun j h1 h2 => (k.2 j h1 h2).trans (h.2 j h1 h2)⟩
theorem K2.mono {R m m' : Nat} {a b : World} (h : K2 R m a b) (hm : m' ≤ m) : K2 R m' a b := ⟨h.1, fun j h1 h2 => h.2 j h1 (Nat.lt_of_lt_of_le h2 hm)⟩
theorem K2.alloc {R m : Nat} {w : World} (o : Obj) (hR : R ≤ w.heap.size) (hm : m ≤ w.heap.size) : K2 R m w (w.alloc o) := ⟨(Below.refl _ _).alloc hR _, fun _ _ h2 => Below.heap_alloc _ _ _ (Nat.lt_of_lt_of_le h2 hm)⟩
theorem K2.setR {R m : Nat} {w : World} (q : Nat) (v : Value) : K2 R m w (w.setCell ⟨R, q, none⟩ v) := ⟨(Below.refl R w).setCell (p := ⟨R, q, none⟩) (Nat.le_refl _) v, fun k h1 _ => Below.heap_setCell _ _ _ _ (by show k ≠ R; omega)⟩
theorem K2.set {R m : Nat} {w : World} {b : Nat} (q : Nat) (v : Value) (hb : m ≤ b) (hR : R ≤ b) : K2 R m w (w.setCell ⟨b, q, none⟩ v) := ⟨(Below.refl R w).setCell (p := ⟨b, q, none⟩) hR v, fun k _ h2 => Below.heap_setCell _ _ _ _ (by show k ≠ b; omega)⟩
theorem K2.below {R m B : Nat} {w w' : World} (h : Below B w w') (hR : R ≤ B) (hm : m ≤ B) : K2 R m w w' := ⟨h.mono hR, fun k _ h2 => h.block k (Nat.lt_of_lt_of_le h2 hm)⟩
theorem K2.kp {R : Nat} {w w' : World} (h : K2 R w.heap.size w w') : Kp R w w' := h
theorem Kp.k2 {R m : Nat} {w w' : World} (h : Kp R w w') (hm : m ≤ w.heap.size) : K2 R m w w' := K2.mono h hm
theorem IsT.setLow {B R : Nat} {l : List UInt8} {w : World} (h : IsT B l w) (hR : R < B) (q : Nat) (v : Value) : IsT B l (w.setCell ⟨R, q, none⟩ v) := by
  have key : ∀ p bs, BAt B p bs w → BAt B p bs (w.setCell ⟨R, q, none⟩ v) := by
    rintro p bs ⟨u, hb, ho⟩
    refine ⟨u, ?_, ownsRow_setCell_below ho (by show R < B + 2; omega) v⟩
    rw [Below.heap_setCell _ _ _ _ (by show B ≠ R; omega)]; exact hb
  refine ⟨?_, by have := h.2; simpa using this⟩
  rcases h.1 with h | h
  · exact .inl (key _ _ h)
  · exact .inr (key _ _ h)
def WAt (b : Nat) (k : Int) (s : ByteArray) (n line : Int) (w : World) : Prop := w.heap[b]? = some (.cells #[.int .u8 k, .string s, .int .i64 n, .int .i64 line] 90 (0, 0))
theorem WAt.cells {b : Nat} {k n line : Int} {s : ByteArray} {w : World} (h : WAt b k s n line w) :
    (w.cell? ⟨b, 0, none⟩ = some (.int .u8 k) ∧ w.cell? ⟨b, 1, none⟩ = some (.string s) ∧ w.cell? ⟨b, 2, none⟩ = some (.int .i64 n) ∧ w.cell? ⟨b, 3, none⟩ = some (.int .i64 line))
    ∧ w.frozen? ⟨b, 0, none⟩ = false ∧ w.frozen? ⟨b, 1, none⟩ = false ∧ w.frozen? ⟨b, 2, none⟩ = false ∧ w.frozen? ⟨b, 3, none⟩ = false := by
  refine ⟨⟨?_, ?_, ?_, ?_⟩, Lib.frozen_of_heap h 0, Lib.frozen_of_heap h 1, Lib.frozen_of_heap h 2, Lib.frozen_of_heap h 3⟩ <;> (rw [Lib.cell_of_heap h]; rfl)
theorem RdAt.setO {R b : Nat} {s : ByteArray} {ln : Int} {w : World} (h : RdAt R s ln w) (hb : R ≠ b) (q : Nat) (v : Value) : RdAt R s ln (w.setCell ⟨b, q, none⟩ v) := by
  unfold RdAt at h ⊢; rw [Below.heap_setCell _ _ _ _ (by show R ≠ b; exact hb)]; exact h
theorem eatText_any (R B : Nat) (s : ByteArray) (ln : Int) (w : World) (hs : s.size ≤ 140737488355327) (hr : RdAt R s ln w) (hq : TxAt B false [] w) (hRB : R < B) :
    Calls Tryz.prog 56 #[.pointer (some ⟨R, 0, none⟩), .func (.func 99) #[] #[.pointer (some ⟨B + 1, 0, none⟩), .pointer (some ⟨B, 0, none⟩)]] w fun e w' =>
      e = .returned (.string (s.extract 0 (LX.txt false s.data.toList).1)) ∧ RdAt R (s.extract (LX.txt false s.data.toList).1 s.size) ln w' ∧ IsT B (LX.txt false s.data.toList).2 w' ∧ K2 R B w w' := by
  have hN := txt_le s.data.toList false
  have hsz : s.data.toList.length = s.size := by simp
  have hrun := txt_run s.data.toList false
  refine (eat_text R (LX.txt false s.data.toList).1 s ln (.pointer (some ⟨B + 1, 0, none⟩)) (.pointer (some ⟨B, 0, none⟩)) w
    (fun n W => RdAt R s ln W ∧ TxAt B (stT false s.data.toList n).1 (stT false s.data.toList n).2 W ∧ K2 R B w W)
    (fun W => RdAt R s ln W ∧ IsT B (LX.txt false s.data.toList).2 W ∧ K2 R B w W) (by omega) (by omega) (fun n W h => h.1) (fun W h => h.1) ?_ ?_ ?_ ?_).mono ?_
  · rintro n W hn hlt ⟨h1, h2, h3⟩
    have hr := (hrun.2 n (by omega)).1 hlt
    have hsn := stT_snoc s.data.toList false n (by omega)
    have hlen := stT_len s.data.toList false n
    rw [get_list s n hn] at hr hsn
    refine (text1_any B _ _ s[n] W h2 (by omega)).mono ?_
    rintro e w' ⟨rfl, k1, k2⟩
    rw [hr, if_pos rfl] at k1
    exact ⟨ret_bool hr, h1.below k2 hRB, by rw [hsn]; exact k1, h3.trans (K2.below k2 (by omega) (Nat.le_refl _))⟩
  · rintro W hn ⟨h1, h2, h3⟩
    have hr := (hrun.2 (LX.txt false s.data.toList).1 (by omega)).2 rfl
    have hlen := stT_len s.data.toList false (LX.txt false s.data.toList).1
    rw [get_list s _ hn] at hr
    refine (text1_any B _ _ s[(LX.txt false s.data.toList).1] W h2 (by omega)).mono ?_
    rintro e w' ⟨rfl, k1, k2⟩
    rw [hr, if_neg (by simp), List.append_nil, hrun.1] at k1
    exact ⟨ret_bool hr, h1.below k2 hRB, k1.1, h3.trans (K2.below k2 (by omega) (Nat.le_refl _))⟩
  · rintro _ W ⟨h1, h2, h3⟩
    rw [hrun.1] at h2
    exact ⟨h1, h2.1, h3⟩
  · exact ⟨hr, by rw [stT_zero]; exact hq, K2.refl _ _ _⟩
  · rintro e w' ⟨W, rfl, ⟨h1, h2, h3⟩, rfl⟩
    exact ⟨rfl, h1.put0, h2.setLow hRB _ _, h3.trans (K2.setR _ _)⟩
def wAgg (x : LX.LW) : Value := .agg #[.int .u8 x.k, .string ⟨x.s.toArray⟩, .int .i64 x.n, .int .i64 0]
def zAgg : Value := .agg #[.int .u8 0, .string ⟨#[]⟩, .int .i64 0, .int .i64 0]
def PostW (r : Option (LX.LW × Nat)) (R : Nat) (s : ByteArray) (ln : Int) (w : World) (e : Ending) (w' : World) : Prop :=
  match r with
  | some (x, m) => e = .returned (.tuple #[wAgg x, .bool true]) ∧ RdAt R (s.extract m s.size) ln w' ∧ Kp R w w'
  | none => e = .returned (.tuple #[zAgg, .bool false]) ∧ (∃ s', RdAt R s' ln w') ∧ Kp R w w'
def txtW (t : List UInt8) : Option (LX.LW × Nat) :=
  if (t.drop (LX.txt false t).1).head? = some 34 ∧ (LX.txt false t).2.length ≤ 4096 then some (⟨3, (LX.txt false t).2, 0, 0⟩, (LX.txt false t).1 + 2) else none
theorem quote_kind (c : UInt8) : (LX.kindN c = 5) ↔ c = 34 := by
  rw [kindN_eq, ← UInt8.toNat_inj, show (34 : UInt8).toNat = 34 from rfl]
  (repeat' split) <;> omega
theorem ext_list (s : ByteArray) (a : Nat) : (s.extract a s.size).data.toList = s.data.toList.drop a := by
  rw [Lib.extract_data]
  have : s.data.toList.length = s.size := by simp
  rw [List.take_of_length_le (by rw [List.length_drop]; omega)]
theorem bytes_eq {a b : ByteArray} (h : a.data.toList = b.data.toList) : a = b := by
  apply ByteArray.ext
  exact Array.toList_inj.1 h
theorem ext_ext (s : ByteArray) (a b : Nat) : (s.extract a s.size).extract b (s.extract a s.size).size = s.extract (a + b) s.size := by
  apply bytes_eq
  rw [ext_list, ext_list, ext_list, List.drop_drop]
set_option maxRecDepth 100000 in
set_option maxHeartbeats 4000000 in
theorem text_any (R : Nat) (s : ByteArray) (ln : Int) (w : World) (hs : s.size ≤ 140737488355327) (hs1 : 1 ≤ s.size) (hr : RdAt R s ln w) :
    Calls Tryz.prog 59 #[.pointer (some ⟨R, 0, none⟩)] w (PostW (txtW (s.data.toList.drop 1)) R s ln w) := by
  have c0 := hr.c0
  have f0 := hr.f0
  have hRlt := hr.lt
  have HRL := Lib.hid hRlt
  have hsz1 : (s.extract 1 s.size).size ≤ 140737488355327 := by simp; omega
  have hr1 : RdAt R (s.extract 1 s.size) ln (w.setCell ⟨R, 0, none⟩ (.string (s.extract 1 s.size))) := hr.put0
  have hz : (w.setCell ⟨R, 0, none⟩ (.string (s.extract 1 s.size))).heap.size = w.heap.size := by simp
  obtain ⟨W0, hW0⟩ : ∃ W, W = ((w.setCell ⟨R, 0, none⟩ (.string (s.extract 1 s.size))).alloc (.cells #[.int .u8 0, .string ⟨#[]⟩, .int .i64 0, .int .i64 0] 90)) := ⟨_, rfl⟩
  have hz0 : W0.heap.size = w.heap.size + 1 := by rw [hW0]; simp
  have hr2 : RdAt R (s.extract 1 s.size) ln W0 := by rw [hW0]; unfold RdAt at hr1 ⊢; rw [Below.heap_alloc _ _ _ (by rw [hz]; exact hRlt)]; exact hr1
  have hw2 : WAt w.heap.size 0 ⟨#[]⟩ 0 0 W0 := by rw [hW0]; unfold WAt; rw [← hz]; exact heap_alloc_new _ _
  have hk2 : K2 R w.heap.size w W0 := by
    rw [hW0]
    exact (K2.setR 0 _).trans (K2.alloc _ (by rw [hz]; omega) (by rw [hz]; exact Nat.le_refl _))
  obtain ⟨W1, hW1⟩ : ∃ W, W = ((W0.alloc (.cells #[.pointer none, .slice none 0 0] 69)).alloc (.cells #[.bool false] 4)) := ⟨_, rfl⟩
  have hr3 : RdAt R (s.extract 1 s.size) ln W1 := by
    rw [hW1]; unfold RdAt at hr2 ⊢
    rw [Below.heap_alloc _ _ _ (by simp; omega), Below.heap_alloc _ _ _ (by omega)]; exact hr2
  have hw3 : WAt w.heap.size 0 ⟨#[]⟩ 0 0 W1 := by
    rw [hW1]; unfold WAt at hw2 ⊢
    rw [Below.heap_alloc _ _ _ (by simp; omega), Below.heap_alloc _ _ _ (by omega)]; exact hw2
  have hk3 : K2 R w.heap.size w W1 := by
    rw [hW1]
    exact (hk2.trans (K2.alloc _ (by omega) (by omega))).trans (K2.alloc _ (by simp; omega) (by simp; omega))
  have ht3 : TxAt (w.heap.size + 1) false [] W1 := by
    rw [hW1, ← hz0]
    refine ⟨IsT.fresh _ _, ?_⟩
    have := heap_alloc_new (W0.alloc (.cells #[.pointer none, .slice none 0 0] 69)) (.cells #[.bool false] 4)
    simpa [BoolAt] using this
  have heat := eatText_any R (w.heap.size + 1) (s.extract 1 s.size) ln W1 hsz1 hr3 ht3 (by omega)
  have hl1 := ext_list s 1
  rw [hl1] at heat
  have hl2 : ((s.extract 1 s.size).extract (LX.txt false (s.data.toList.drop 1)).1 (s.extract 1 s.size).size).data.toList = (s.data.toList.drop 1).drop (LX.txt false (s.data.toList.drop 1)).1 := by rw [ext_list, hl1]
  have hx2 : ((s.extract 1 s.size).extract (LX.txt false (s.data.toList.drop 1)).1 (s.extract 1 s.size).size).extract 1 ((s.extract 1 s.size).extract (LX.txt false (s.data.toList.drop 1)).1 (s.extract 1 s.size).size).size = s.extract ((LX.txt false (s.data.toList.drop 1)).1 + 2) s.size := by
    rw [ext_ext, ext_ext]
    congr 1; omega
  have HY : Hid (((s.data.toList.drop 1).drop (LX.txt false (s.data.toList.drop 1)).1).head? = some 34 → (LX.txt false (s.data.toList.drop 1)).2.length ≤ 4096 → ∀ w', RdAt R (s.extract ((LX.txt false (s.data.toList.drop 1)).1 + 2) s.size) ln w' → Kp R w w' → PostW (txtW (s.data.toList.drop 1)) R s ln w (.returned (.tuple #[wAgg ⟨3, (LX.txt false (s.data.toList.drop 1)).2, 0, 0⟩, .bool true])) w') := by
    intro h1 h2 w' h3 h4
    rw [txtW, if_pos ⟨h1, h2⟩]
    exact ⟨rfl, h3, h4⟩
  have HN : Hid (¬ (((s.data.toList.drop 1).drop (LX.txt false (s.data.toList.drop 1)).1).head? = some 34 ∧ (LX.txt false (s.data.toList.drop 1)).2.length ≤ 4096) → ∀ w' s', RdAt R s' ln w' → Kp R w w' → PostW (txtW (s.data.toList.drop 1)) R s ln w (.returned (.tuple #[zAgg, .bool false])) w') := by
    intro h1 w' s' h3 h4
    rw [txtW, if_neg h1]
    exact ⟨rfl, ⟨s', h3⟩, h4⟩
  generalize hs2 : (s.extract 1 s.size).extract (LX.txt false (s.data.toList.drop 1)).1 (s.extract 1 s.size).size = s2 at heat hl2 hx2
  rw [← hl2, ← hx2] at HY
  rw [← hl2] at HN
  generalize (LX.txt false (s.data.toList.drop 1)).2 = o at heat HY HN
  generalize (s.extract 1 s.size).extract 0 (LX.txt false (s.data.toList.drop 1)).1 = x at heat
  rw [hW1, hW0] at heat
  have HEat := Lib.hid heat
  rw [hW1, hW0] at hw3 hk3
  have HX : Hid (∀ w1, K2 R (w.heap.size + 1) _ w1 → WAt w.heap.size 0 ⟨#[]⟩ 0 0 w1 ∧ K2 R w.heap.size w w1) := Lib.hid (fun w1 hk => ⟨by unfold WAt; rw [hk.2 _ hRlt (by omega)]; exact hw3, hk3.trans (hk.mono (by omega))⟩)
  have HKind := Lib.hid (fun c W => kindOf_any c W)
  have HLen := Lib.hid (fun W h => len_any (w.heap.size + 1) o W h)
  have HStr := Lib.hid (fun W h => string_any (w.heap.size + 1) o W h)
  have hsl : s2.data.toList.length = s2.size := by simp
  have g1 : (1 : Int) ≤ (s.size : Int) := by omega
  clear hr hr1 hr2 hr3 hw2 hk2 hw3 hk3 ht3 heat hl1 hl2 hx2 hs2 hz hz0 hsz1 hs hs1 hW0 hW1
  obtain ⟨post, hpost⟩ : ∃ p, PostW (txtW (s.data.toList.drop 1)) R s ln w = p := ⟨_, rfl⟩
  rw [hpost] at HY HN ⊢
  clear hpost
  by_cases h2 : s2.size = 0
  · have e1 : s2.toList.isEmpty = true := by rw [ByteArray.toList_eq, show s2.data = #[] from Array.eq_empty_of_size_eq_zero h2]; rfl
    have hno := HN.out (by
      intro h
      have : s2.data.toList = [] := by apply List.eq_nil_of_length_eq_zero; omega
      rw [this] at h; simp at h)
    have HNO := Lib.hid hno
    clear hno HY HN h2 hsl
    go_enter Tryz.func59, Tryz.ntmps59
    go_wp2_with (go_at_call 56; (with_reducible refine HEat.out.mono ?_); rintro e w1 ⟨rfl, hr1, ht1, hk1⟩; (have HA := Lib.hid (And.intro hr1 (HX.out _ hk1))); (have r1 := hr1.c0); (obtain ⟨⟨d0, d1, d2, d3⟩, z0, z1, z2, z3⟩ := HA.out.2.1.cells); clear hr1 ht1 hk1 c0 f0)
    refine bodyPost_ret (v := .tuple #[zAgg, .bool false]) (by simp [results, Tryz.results59, go_sem, d0, d1, d2, d3, zAgg]) rfl (HNO.out _ s2 ?_ ?_)
    · have := HRL.out
      iterate 4 (with_reducible refine RdAt.setO ?_ (by omega) _ _)
      exact HA.out.1
    · have := HRL.out
      refine K2.kp ?_
      iterate 4 (with_reducible refine K2.trans ?_ (K2.set (R := R) (m := w.heap.size) (b := w.heap.size) _ _ (Nat.le_refl _) (by omega)))
      exact HA.out.2.2
  · have e1 : s2.toList.isEmpty = false := by
      cases hc : s2.data.toList with
      | nil => rw [hc] at hsl; simp at hsl; omega
      | cons a t => rw [ByteArray.toList_eq, hc]; rfl
    have h2' : 0 < s2.size := by omega
    have hd : s2.data.toList.head? = some (s2[0]'h2') := by
      rw [← get_list s2 0 h2', List.head?_eq_getElem?, List.getElem?_eq_getElem (by omega)]
    rw [hd] at HY HN
    have hq := quote_kind (s2[0]'h2')
    have hkd := Lib.hid (fun W => kindOf_any (s2[0]'h2') W)
    obtain ⟨k, hk⟩ : ∃ k, LX.kindN (s2[0]'h2') = k := ⟨_, rfl⟩
    rw [hk] at hkd hq
    have HKd := hkd
    have g4 : (0 : Int) ≤ (o.length : Int) := by omega
    clear hk hsl h2 hd hkd
    by_cases h5 : k = 5
    · have t5 : ((k : Int) != 5) = false := by rw [bne_eq_false_iff_eq]; omega
      by_cases ho : o.length ≤ 4096
      · have g5 : ¬ (4096 : Int) < (o.length : Int) := by omega
        have HYE := Lib.hid (HY.out (by rw [hq.1 h5]) ho)
        have HB2 := Lib.hid (fun (W W' : World) (h : WAt w.heap.size 0 ⟨#[]⟩ 0 0 W) (hb : Below (w.heap.size + 1) (W.setCell ⟨R, 0, none⟩ (.string (s2.extract 1 s2.size))) W') => show WAt w.heap.size 0 ⟨#[]⟩ 0 0 W' by
          unfold WAt at h ⊢
          rw [hb.block _ (by omega), Below.heap_setCell _ _ _ _ (by show w.heap.size ≠ R; omega)]; exact h)
        clear h5 hq ho HN HY
        go_enter Tryz.func59, Tryz.ntmps59
        go_wp2_with (first
          | (go_at_call 56; (with_reducible refine HEat.out.mono ?_); rintro e w1 ⟨rfl, hr1, ht1, hk1⟩; (have HA := Lib.hid (And.intro hr1 (HX.out _ hk1))); (have HT := Lib.hid ht1); (have r1 := hr1.c0); (have rf1 := hr1.f0); (obtain ⟨⟨d0, d1, d2, d3⟩, z0, z1, z2, z3⟩ := HA.out.2.1.cells); clear hr1 ht1 hk1 c0 f0)
          | (go_at_call 58; (with_reducible refine (HKd.out _).mono ?_); rintro e w2 ⟨rfl, rfl⟩)
          | (go_at_call 102; (with_reducible refine (HLen.out _ HT.out).mono ?_); rintro e w2 ⟨rfl, rfl⟩)
          | (go_at_call 30; (with_reducible refine (HStr.out _ (HT.out.setLow (by omega) _ _)).mono ?_); rintro e w2 ⟨rfl, hb2⟩; (have HB := Lib.hid hb2); clear r1 rf1 d0 d1 d2 d3 z0 z1 z2 z3; (obtain ⟨⟨d0, d1, d2, d3⟩, z0, z1, z2, z3⟩ := (HB2.out _ _ HA.out.2.1 HB.out).cells); clear hb2))
        refine bodyPost_ret (v := .tuple #[wAgg ⟨3, o, 0, 0⟩, .bool true]) (by simp [results, Tryz.results59, go_sem, d0, d1, d2, d3, wAgg]) rfl (HYE.out _ ?_ ?_)
        · have := HRL.out
          iterate 4 (with_reducible refine RdAt.setO ?_ (by omega) _ _)
          exact HA.out.1.put0.below HB.out (by omega)
        · have := HRL.out
          refine K2.kp ?_
          iterate 4 (with_reducible refine K2.trans ?_ (K2.set (R := R) (m := w.heap.size) (b := w.heap.size) _ _ (Nat.le_refl _) (by omega)))
          exact (HA.out.2.2.trans (K2.setR _ _)).trans (K2.below HB.out (by omega) (by omega))
      · have g5 : (4096 : Int) < (o.length : Int) := by omega
        have HNO := Lib.hid (HN.out (fun h => ho h.2))
        clear h5 hq ho HN HY
        go_enter Tryz.func59, Tryz.ntmps59
        go_wp2_with (first
          | (go_at_call 56; (with_reducible refine HEat.out.mono ?_); rintro e w1 ⟨rfl, hr1, ht1, hk1⟩; (have HA := Lib.hid (And.intro hr1 (HX.out _ hk1))); (have HT := Lib.hid ht1); (have r1 := hr1.c0); (have rf1 := hr1.f0); (obtain ⟨⟨d0, d1, d2, d3⟩, z0, z1, z2, z3⟩ := HA.out.2.1.cells); clear hr1 ht1 hk1 c0 f0)
          | (go_at_call 58; (with_reducible refine (HKd.out _).mono ?_); rintro e w2 ⟨rfl, rfl⟩)
          | (go_at_call 102; (with_reducible refine (HLen.out _ HT.out).mono ?_); rintro e w2 ⟨rfl, rfl⟩))
        refine bodyPost_ret (v := .tuple #[zAgg, .bool false]) (by simp [results, Tryz.results59, go_sem, d0, d1, d2, d3, zAgg]) rfl (HNO.out _ s2 ?_ ?_)
        · have := HRL.out
          iterate 4 (with_reducible refine RdAt.setO ?_ (by omega) _ _)
          exact HA.out.1
        · have := HRL.out
          refine K2.kp ?_
          iterate 4 (with_reducible refine K2.trans ?_ (K2.set (R := R) (m := w.heap.size) (b := w.heap.size) _ _ (Nat.le_refl _) (by omega)))
          exact HA.out.2.2
    · have t5 : ((k : Int) != 5) = true := by rw [bne_iff_ne]; omega
      have HNO := Lib.hid (HN.out (fun h => h5 (hq.2 (by simpa using h.1))))
      clear h5 hq HN HY
      go_enter Tryz.func59, Tryz.ntmps59
      go_wp2_with (first
        | (go_at_call 56; (with_reducible refine HEat.out.mono ?_); rintro e w1 ⟨rfl, hr1, ht1, hk1⟩; (have HA := Lib.hid (And.intro hr1 (HX.out _ hk1))); (have HT := Lib.hid ht1); (have r1 := hr1.c0); (have rf1 := hr1.f0); (obtain ⟨⟨d0, d1, d2, d3⟩, z0, z1, z2, z3⟩ := HA.out.2.1.cells); clear hr1 ht1 hk1 c0 f0)
        | (go_at_call 58; (with_reducible refine (HKd.out _).mono ?_); rintro e w2 ⟨rfl, rfl⟩))
      all_goals
        refine bodyPost_ret (v := .tuple #[zAgg, .bool false]) (by simp [results, Tryz.results59, go_sem, d0, d1, d2, d3, zAgg]) rfl (HNO.out _ s2 ?_ ?_)
        · have := HRL.out
          iterate 4 (with_reducible refine RdAt.setO ?_ (by omega) _ _)
          exact HA.out.1
        · have := HRL.out
          refine K2.kp ?_
          iterate 4 (with_reducible refine K2.trans ?_ (K2.set (R := R) (m := w.heap.size) (b := w.heap.size) _ _ (Nat.le_refl _) (by omega)))
          exact HA.out.2.2
end Go.Proofs.YtedmmgfnplbkjaaGreatDoor
