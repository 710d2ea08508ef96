/-
  Walks: the reference's has. Plain: the keys that the model has seen are those of its children.
  Conditions: the children lie in memory.
  Walks: the reference's Kids answers the model's children ('kidsM'), in a row of its own.
  Conditions: the values lie in memory, each list and each key takes no more than the reach, and so do all together.
-/
import Derived.Test.YtnmindcofdcncaaGreatDoorKMe
namespace Go.Proofs.YtnmindcofdcncaaGreatDoor.Rk
set_option linter.unusedVariables false
set_option linter.unusedSimpArgs false
open Go.RowKit Go.Deep Go.WideShapes
def hasK (cs : List C) (key : ByteArray) : Bool := decide (∃ d ∈ cs, d.key = key)
set_option maxHeartbeats 1000000 in
theorem rhas_any (a : Option Addr) (cp : Nat) (cs : List C) (key : ByteArray) (w : World) (h : KRow w a cs) (hl : cs.length ≤ cp ∧ cp ≤ maxLen) :
    Calls Tryz.prog 22 #[.slice a cs.length cp, .string key] w fun x w' => x = .returned (.bool (hasK cs key)) ∧ w = w' := by
  unfold maxLen at hl
  have H := Lib.hid h
  clear h
  go_enter Tryz.func22, Tryz.ntmps22
  go_wp2_with fail
  go_loopw [5] (fun i wr => ∃ k : Nat, k ≤ cs.length ∧ i = .int .i64 k ∧ w = wr ∧ ∀ (j : Nat) (hj : j < cs.length), j < k → (cs[j]).key ≠ key) (fun i _ => cs.length - (intOf i).toNat)
  case atStart => exact ⟨0, Nat.zero_le _, rfl, rfl, fun j hj h0 => absurd h0 (Nat.not_lt_zero _)⟩
  case round =>
    obtain ⟨k, hk, rfl, rfl, hno⟩ := hrel
    have HNO := Lib.hid hno
    clear hno
    by_cases hlt : k < cs.length
    · obtain ⟨g, rfl, hat⟩ := H.out.at' k hlt
      have c0 : w.cell? ⟨g, k * 11, none⟩ = some (.string (cs[k]).key) := by
        have := hat 0 (by simp [C.cells])
        simpa [C.cells] using this
      obtain ⟨ky, hky⟩ : ∃ q, q = (cs[k]).key := ⟨_, rfl⟩
      rw [← hky] at c0
      have HKY := Lib.hid hky
      clear hat hky
      have hlt' : (k : Int) < (cs.length : Int) := by omega
      have hk0 : (0 : Int) ≤ (k : Int) := by omega
      by_cases e : ky = key
      · have HY : Hid (hasK cs key = true) := Lib.hid (decide_eq_true ⟨_, List.getElem_mem hlt, by rw [← HKY.out]; exact e⟩)
        subst e
        go_wp2_with fail
        go_ret
        exact ⟨by rw [HY.out]; rfl, rfl⟩
      · have HN : Hid (∀ (j : Nat) (hj : j < cs.length), j < k + 1 → (cs[j]).key ≠ key) := Lib.hid (fun j hj h1 => by
          rcases Nat.lt_succ_iff_lt_or_eq.1 h1 with h2 | rfl
          · exact HNO.out j hj h2
          · rw [← HKY.out]; exact e)
        have eb := bytes_ne e
        go_wp2_with fail
        refine ⟨⟨k + 1, hlt, by go_num, by first | rfl | trivial, HN.out⟩, by simp [intOf]; omega⟩
    · obtain rfl : k = cs.length := by omega
      have HY : Hid (hasK cs key = false) := Lib.hid (decide_eq_false (fun ⟨d, hd, e⟩ => by
        obtain ⟨j, hj, rfl⟩ := List.mem_iff_getElem.1 hd
        exact HNO.out j hj hj e))
      go_wp2_with fail
      go_ret
      exact ⟨by rw [HY.out]; rfl, rfl⟩
theorem ik_ne (p : Int) (x : ByteArray) : iKey p ≠ kKey x := by
  intro e
  have := congrArg (fun b : ByteArray => b.data.toList.head?) e
  simp [iKey, kKey, Array.toList_append] at this
def SeenIs (st : St) : Prop := ∀ x : ByteArray, (kKey x).data.toList ∈ st.seen ↔ ∃ d ∈ st.out, d.key = kKey x
theorem bytes_list {a b : ByteArray} (h : a.data.toList = b.data.toList) : a = b := WideShapes.bytes_inj h
theorem seen_step {st : St} (h : SeenIs st) (v : V) : SeenIs (stepK st v) := by
  intro x
  unfold stepK
  cases hk : v.kid with
  | none => exact h x
  | some c =>
    cases v with
    | leaf => cases hk
    | mk k n s la ll lc L fa fl fc fn F e key hk' =>
      simp only [keyM]
      split
      · rename_i hc
        simp only [List.mem_append, List.mem_singleton]
        constructor
        · rintro (q | q)
          · obtain ⟨d, hd, e⟩ := (h x).1 q
            exact ⟨d, .inl hd, e⟩
          · exact ⟨_, .inr rfl, (bytes_list q).symm⟩
        · rintro ⟨d, hd | rfl, e⟩
          · exact .inl ((h x).2 ⟨d, hd, e⟩)
          · right; rw [← e]
      · simp only [List.mem_append, List.mem_singleton]
        constructor
        · intro q
          obtain ⟨d, hd, e⟩ := (h x).1 q
          exact ⟨d, .inl hd, e⟩
        · rintro ⟨d, hd | rfl, e⟩
          · exact (h x).2 ⟨d, hd, e⟩
          · exact absurd e (ik_ne _ _)
theorem seen_of (l : List V) : SeenIs (stOf l) := by
  have key : ∀ (l : List V) (st : St), SeenIs st → SeenIs (l.foldl stepK st) := by
    intro l
    induction l with
    | nil => exact fun st h => h
    | cons v r ih => exact fun st h => ih _ (seen_step h v)
  exact key l _ (fun x => by simp)
theorem run_step {l : List V} {k : Nat} (hk : k < l.length) (h : kidsM l = (runK (stOf (l.take k)) (l.drop k)).out) :
    stOf (l.take (k + 1)) = stepK (stOf (l.take k)) l[k] ∧ (if (stepK (stOf (l.take k)) l[k]).out.length = 4096 then kidsM l = (stepK (stOf (l.take k)) l[k]).out else kidsM l = (runK (stOf (l.take (k + 1))) (l.drop (k + 1))).out) := by
  have e1 : stOf (l.take (k + 1)) = stepK (stOf (l.take k)) l[k] := by
    rw [show l.take (k + 1) = l.take k ++ [l[k]] from by rw [List.take_add_one, List.getElem?_eq_getElem hk]; rfl, stOf_snoc]
  refine ⟨e1, ?_⟩
  rw [List.drop_eq_getElem_cons hk, runK] at h
  rw [e1]
  split
  · rename_i q; rw [h, if_pos q]
  · rename_i q; rw [h, if_neg q]
end Go.Proofs.YtnmindcofdcncaaGreatDoor.Rk
namespace Go.Proofs.YtnmindcofdcncaaGreatDoor.Rk
set_option linter.unusedVariables false
set_option linter.unusedSimpArgs false
open Go.RowKit Go.Deep Go.WideShapes
theorem append_kid {base : Nat} {W : World} {n : Nat} {xs : List Value} {v : Value} {ops : Array Oper} {rest : List Oper} {o : Oper} {a : Act} {Q : Exit → Act → World → Prop}
    (hown : W.ownsRow base 70 11 v n xs) (hbase : base ≤ W.heap.size) (hgd : o.guard = none) (s x : Operand)
    (ho : o.op = .call { callee := .builtin .append, args := #[s, x], argTypes := #[26, 26] }) (hs : a.eval s = v) (c : C) (hc : c.cells.length = 11) (T : TypeId) (hx : a.eval x = .slice (some ⟨W.heap.size, 0, none⟩) 1 1) (hn : n ≤ 4096)
    (hr : ∀ v' W', W'.ownsRow base 70 11 v' (n + 1) (xs ++ c.cells) → Below base W W' → wpList Tryz.prog ops Q rest (a.put o.dst v') W') : wpList Tryz.prog ops Q (o :: rest) a (W.alloc (.cells c.cells.toArray T)) := by
  obtain ⟨i0, hi, hz0, hz1, hz2⟩ := info_parts info_child
  refine wpList_append_own _ hgd s x _ ho base 70 i0 _ 11 152 Tryz.underlying26 hi hz0 hz1 hz2 rfl (by decide) v n xs hs (hown.alloc _) ⟨W.heap.size, 0, none⟩ 1 1 c.cells hx (by rw [hc]) Bk.new_cells (c_one c) (by unfold maxLen; omega) (by omega) (by simp; omega) ?_
  intro v' w' hown' hgrow _
  exact hr v' w' hown' (((below_alloc W _).mono hbase).grown hgrow (by simp; omega) (fun k e => (hown.lt _ e).1))
theorem box_c (c0 c1 c2 c3 c4 c5 c6 c7 c8 c9 c10 : Value) (w : World) : (((((((((((((w.alloc (.cells #[.string ⟨#[]⟩, .int .u8 0, .string ⟨#[]⟩, .int .u8 0, .int .i64 0, .string ⟨#[]⟩, .slice none 0 0, .slice none 0 0, .int .u8 0, .string ⟨#[]⟩, .bool false] 70)).setCell ⟨w.heap.size, 0, none⟩ (c0)).setCell ⟨w.heap.size, 1, none⟩ (c1)).setCell ⟨w.heap.size, 2, none⟩ (c2)).setCell ⟨w.heap.size, 3, none⟩ (c3)).setCell ⟨w.heap.size, 4, none⟩ (c4)).setCell ⟨w.heap.size, 5, none⟩ (c5)).setCell ⟨w.heap.size, 6, none⟩ (c6)).setCell ⟨w.heap.size, 7, none⟩ (c7)).setCell ⟨w.heap.size, 8, none⟩ (c8)).setCell ⟨w.heap.size, 9, none⟩ (c9)).setCell ⟨w.heap.size, 10, none⟩ (c10)).cell? ⟨w.heap.size, 0, none⟩ = some c0 ∧ ((((((((((((w.alloc (.cells #[.string ⟨#[]⟩, .int .u8 0, .string ⟨#[]⟩, .int .u8 0, .int .i64 0, .string ⟨#[]⟩, .slice none 0 0, .slice none 0 0, .int .u8 0, .string ⟨#[]⟩, .bool false] 70)).setCell ⟨w.heap.size, 0, none⟩ (c0)).setCell ⟨w.heap.size, 1, none⟩ (c1)).setCell ⟨w.heap.size, 2, none⟩ (c2)).setCell ⟨w.heap.size, 3, none⟩ (c3)).setCell ⟨w.heap.size, 4, none⟩ (c4)).setCell ⟨w.heap.size, 5, none⟩ (c5)).setCell ⟨w.heap.size, 6, none⟩ (c6)).setCell ⟨w.heap.size, 7, none⟩ (c7)).setCell ⟨w.heap.size, 8, none⟩ (c8)).setCell ⟨w.heap.size, 9, none⟩ (c9)).setCell ⟨w.heap.size, 10, none⟩ (c10)).cell? ⟨w.heap.size, 1, none⟩ = some c1 ∧ ((((((((((((w.alloc (.cells #[.string ⟨#[]⟩, .int .u8 0, .string ⟨#[]⟩, .int .u8 0, .int .i64 0, .string ⟨#[]⟩, .slice none 0 0, .slice none 0 0, .int .u8 0, .string ⟨#[]⟩, .bool false] 70)).setCell ⟨w.heap.size, 0, none⟩ (c0)).setCell ⟨w.heap.size, 1, none⟩ (c1)).setCell ⟨w.heap.size, 2, none⟩ (c2)).setCell ⟨w.heap.size, 3, none⟩ (c3)).setCell ⟨w.heap.size, 4, none⟩ (c4)).setCell ⟨w.heap.size, 5, none⟩ (c5)).setCell ⟨w.heap.size, 6, none⟩ (c6)).setCell ⟨w.heap.size, 7, none⟩ (c7)).setCell ⟨w.heap.size, 8, none⟩ (c8)).setCell ⟨w.heap.size, 9, none⟩ (c9)).setCell ⟨w.heap.size, 10, none⟩ (c10)).cell? ⟨w.heap.size, 2, none⟩ = some c2 ∧ ((((((((((((w.alloc (.cells #[.string ⟨#[]⟩, .int .u8 0, .string ⟨#[]⟩, .int .u8 0, .int .i64 0, .string ⟨#[]⟩, .slice none 0 0, .slice none 0 0, .int .u8 0, .string ⟨#[]⟩, .bool false] 70)).setCell ⟨w.heap.size, 0, none⟩ (c0)).setCell ⟨w.heap.size, 1, none⟩ (c1)).setCell ⟨w.heap.size, 2, none⟩ (c2)).setCell ⟨w.heap.size, 3, none⟩ (c3)).setCell ⟨w.heap.size, 4, none⟩ (c4)).setCell ⟨w.heap.size, 5, none⟩ (c5)).setCell ⟨w.heap.size, 6, none⟩ (c6)).setCell ⟨w.heap.size, 7, none⟩ (c7)).setCell ⟨w.heap.size, 8, none⟩ (c8)).setCell ⟨w.heap.size, 9, none⟩ (c9)).setCell ⟨w.heap.size, 10, none⟩ (c10)).cell? ⟨w.heap.size, 3, none⟩ = some c3 ∧ ((((((((((((w.alloc (.cells #[.string ⟨#[]⟩, .int .u8 0, .string ⟨#[]⟩, .int .u8 0, .int .i64 0, .string ⟨#[]⟩, .slice none 0 0, .slice none 0 0, .int .u8 0, .string ⟨#[]⟩, .bool false] 70)).setCell ⟨w.heap.size, 0, none⟩ (c0)).setCell ⟨w.heap.size, 1, none⟩ (c1)).setCell ⟨w.heap.size, 2, none⟩ (c2)).setCell ⟨w.heap.size, 3, none⟩ (c3)).setCell ⟨w.heap.size, 4, none⟩ (c4)).setCell ⟨w.heap.size, 5, none⟩ (c5)).setCell ⟨w.heap.size, 6, none⟩ (c6)).setCell ⟨w.heap.size, 7, none⟩ (c7)).setCell ⟨w.heap.size, 8, none⟩ (c8)).setCell ⟨w.heap.size, 9, none⟩ (c9)).setCell ⟨w.heap.size, 10, none⟩ (c10)).cell? ⟨w.heap.size, 4, none⟩ = some c4 ∧ ((((((((((((w.alloc (.cells #[.string ⟨#[]⟩, .int .u8 0, .string ⟨#[]⟩, .int .u8 0, .int .i64 0, .string ⟨#[]⟩, .slice none 0 0, .slice none 0 0, .int .u8 0, .string ⟨#[]⟩, .bool false] 70)).setCell ⟨w.heap.size, 0, none⟩ (c0)).setCell ⟨w.heap.size, 1, none⟩ (c1)).setCell ⟨w.heap.size, 2, none⟩ (c2)).setCell ⟨w.heap.size, 3, none⟩ (c3)).setCell ⟨w.heap.size, 4, none⟩ (c4)).setCell ⟨w.heap.size, 5, none⟩ (c5)).setCell ⟨w.heap.size, 6, none⟩ (c6)).setCell ⟨w.heap.size, 7, none⟩ (c7)).setCell ⟨w.heap.size, 8, none⟩ (c8)).setCell ⟨w.heap.size, 9, none⟩ (c9)).setCell ⟨w.heap.size, 10, none⟩ (c10)).cell? ⟨w.heap.size, 5, none⟩ = some c5 ∧ ((((((((((((w.alloc (.cells #[.string ⟨#[]⟩, .int .u8 0, .string ⟨#[]⟩, .int .u8 0, .int .i64 0, .string ⟨#[]⟩, .slice none 0 0, .slice none 0 0, .int .u8 0, .string ⟨#[]⟩, .bool false] 70)).setCell ⟨w.heap.size, 0, none⟩ (c0)).setCell ⟨w.heap.size, 1, none⟩ (c1)).setCell ⟨w.heap.size, 2, none⟩ (c2)).setCell ⟨w.heap.size, 3, none⟩ (c3)).setCell ⟨w.heap.size, 4, none⟩ (c4)).setCell ⟨w.heap.size, 5, none⟩ (c5)).setCell ⟨w.heap.size, 6, none⟩ (c6)).setCell ⟨w.heap.size, 7, none⟩ (c7)).setCell ⟨w.heap.size, 8, none⟩ (c8)).setCell ⟨w.heap.size, 9, none⟩ (c9)).setCell ⟨w.heap.size, 10, none⟩ (c10)).cell? ⟨w.heap.size, 6, none⟩ = some c6 ∧ ((((((((((((w.alloc (.cells #[.string ⟨#[]⟩, .int .u8 0, .string ⟨#[]⟩, .int .u8 0, .int .i64 0, .string ⟨#[]⟩, .slice none 0 0, .slice none 0 0, .int .u8 0, .string ⟨#[]⟩, .bool false] 70)).setCell ⟨w.heap.size, 0, none⟩ (c0)).setCell ⟨w.heap.size, 1, none⟩ (c1)).setCell ⟨w.heap.size, 2, none⟩ (c2)).setCell ⟨w.heap.size, 3, none⟩ (c3)).setCell ⟨w.heap.size, 4, none⟩ (c4)).setCell ⟨w.heap.size, 5, none⟩ (c5)).setCell ⟨w.heap.size, 6, none⟩ (c6)).setCell ⟨w.heap.size, 7, none⟩ (c7)).setCell ⟨w.heap.size, 8, none⟩ (c8)).setCell ⟨w.heap.size, 9, none⟩ (c9)).setCell ⟨w.heap.size, 10, none⟩ (c10)).cell? ⟨w.heap.size, 7, none⟩ = some c7 ∧ ((((((((((((w.alloc (.cells #[.string ⟨#[]⟩, .int .u8 0, .string ⟨#[]⟩, .int .u8 0, .int .i64 0, .string ⟨#[]⟩, .slice none 0 0, .slice none 0 0, .int .u8 0, .string ⟨#[]⟩, .bool false] 70)).setCell ⟨w.heap.size, 0, none⟩ (c0)).setCell ⟨w.heap.size, 1, none⟩ (c1)).setCell ⟨w.heap.size, 2, none⟩ (c2)).setCell ⟨w.heap.size, 3, none⟩ (c3)).setCell ⟨w.heap.size, 4, none⟩ (c4)).setCell ⟨w.heap.size, 5, none⟩ (c5)).setCell ⟨w.heap.size, 6, none⟩ (c6)).setCell ⟨w.heap.size, 7, none⟩ (c7)).setCell ⟨w.heap.size, 8, none⟩ (c8)).setCell ⟨w.heap.size, 9, none⟩ (c9)).setCell ⟨w.heap.size, 10, none⟩ (c10)).cell? ⟨w.heap.size, 8, none⟩ = some c8 ∧ ((((((((((((w.alloc (.cells #[.string ⟨#[]⟩, .int .u8 0, .string ⟨#[]⟩, .int .u8 0, .int .i64 0, .string ⟨#[]⟩, .slice none 0 0, .slice none 0 0, .int .u8 0, .string ⟨#[]⟩, .bool false] 70)).setCell ⟨w.heap.size, 0, none⟩ (c0)).setCell ⟨w.heap.size, 1, none⟩ (c1)).setCell ⟨w.heap.size, 2, none⟩ (c2)).setCell ⟨w.heap.size, 3, none⟩ (c3)).setCell ⟨w.heap.size, 4, none⟩ (c4)).setCell ⟨w.heap.size, 5, none⟩ (c5)).setCell ⟨w.heap.size, 6, none⟩ (c6)).setCell ⟨w.heap.size, 7, none⟩ (c7)).setCell ⟨w.heap.size, 8, none⟩ (c8)).setCell ⟨w.heap.size, 9, none⟩ (c9)).setCell ⟨w.heap.size, 10, none⟩ (c10)).cell? ⟨w.heap.size, 9, none⟩ = some c9 ∧ ((((((((((((w.alloc (.cells #[.string ⟨#[]⟩, .int .u8 0, .string ⟨#[]⟩, .int .u8 0, .int .i64 0, .string ⟨#[]⟩, .slice none 0 0, .slice none 0 0, .int .u8 0, .string ⟨#[]⟩, .bool false] 70)).setCell ⟨w.heap.size, 0, none⟩ (c0)).setCell ⟨w.heap.size, 1, none⟩ (c1)).setCell ⟨w.heap.size, 2, none⟩ (c2)).setCell ⟨w.heap.size, 3, none⟩ (c3)).setCell ⟨w.heap.size, 4, none⟩ (c4)).setCell ⟨w.heap.size, 5, none⟩ (c5)).setCell ⟨w.heap.size, 6, none⟩ (c6)).setCell ⟨w.heap.size, 7, none⟩ (c7)).setCell ⟨w.heap.size, 8, none⟩ (c8)).setCell ⟨w.heap.size, 9, none⟩ (c9)).setCell ⟨w.heap.size, 10, none⟩ (c10)).cell? ⟨w.heap.size, 10, none⟩ = some c10) ∧ (∀ r, ((((((((((((w.alloc (.cells #[.string ⟨#[]⟩, .int .u8 0, .string ⟨#[]⟩, .int .u8 0, .int .i64 0, .string ⟨#[]⟩, .slice none 0 0, .slice none 0 0, .int .u8 0, .string ⟨#[]⟩, .bool false] 70)).setCell ⟨w.heap.size, 0, none⟩ (c0)).setCell ⟨w.heap.size, 1, none⟩ (c1)).setCell ⟨w.heap.size, 2, none⟩ (c2)).setCell ⟨w.heap.size, 3, none⟩ (c3)).setCell ⟨w.heap.size, 4, none⟩ (c4)).setCell ⟨w.heap.size, 5, none⟩ (c5)).setCell ⟨w.heap.size, 6, none⟩ (c6)).setCell ⟨w.heap.size, 7, none⟩ (c7)).setCell ⟨w.heap.size, 8, none⟩ (c8)).setCell ⟨w.heap.size, 9, none⟩ (c9)).setCell ⟨w.heap.size, 10, none⟩ (c10)).frozen? ⟨w.heap.size, r, none⟩ = false) ∧ Below w.heap.size w ((((((((((((w.alloc (.cells #[.string ⟨#[]⟩, .int .u8 0, .string ⟨#[]⟩, .int .u8 0, .int .i64 0, .string ⟨#[]⟩, .slice none 0 0, .slice none 0 0, .int .u8 0, .string ⟨#[]⟩, .bool false] 70)).setCell ⟨w.heap.size, 0, none⟩ (c0)).setCell ⟨w.heap.size, 1, none⟩ (c1)).setCell ⟨w.heap.size, 2, none⟩ (c2)).setCell ⟨w.heap.size, 3, none⟩ (c3)).setCell ⟨w.heap.size, 4, none⟩ (c4)).setCell ⟨w.heap.size, 5, none⟩ (c5)).setCell ⟨w.heap.size, 6, none⟩ (c6)).setCell ⟨w.heap.size, 7, none⟩ (c7)).setCell ⟨w.heap.size, 8, none⟩ (c8)).setCell ⟨w.heap.size, 9, none⟩ (c9)).setCell ⟨w.heap.size, 10, none⟩ (c10)) ∧ ((((((((((((w.alloc (.cells #[.string ⟨#[]⟩, .int .u8 0, .string ⟨#[]⟩, .int .u8 0, .int .i64 0, .string ⟨#[]⟩, .slice none 0 0, .slice none 0 0, .int .u8 0, .string ⟨#[]⟩, .bool false] 70)).setCell ⟨w.heap.size, 0, none⟩ (c0)).setCell ⟨w.heap.size, 1, none⟩ (c1)).setCell ⟨w.heap.size, 2, none⟩ (c2)).setCell ⟨w.heap.size, 3, none⟩ (c3)).setCell ⟨w.heap.size, 4, none⟩ (c4)).setCell ⟨w.heap.size, 5, none⟩ (c5)).setCell ⟨w.heap.size, 6, none⟩ (c6)).setCell ⟨w.heap.size, 7, none⟩ (c7)).setCell ⟨w.heap.size, 8, none⟩ (c8)).setCell ⟨w.heap.size, 9, none⟩ (c9)).setCell ⟨w.heap.size, 10, none⟩ (c10)).heap.size = w.heap.size + 1 := by
  have hz := Bk.at_new (w := w) (cs := [.string ⟨#[]⟩, .int .u8 0, .string ⟨#[]⟩, .int .u8 0, .int .i64 0, .string ⟨#[]⟩, .slice none 0 0, .slice none 0 0, .int .u8 0, .string ⟨#[]⟩, .bool false]) (T := 70) rfl (Below.refl _ _)
  have hp := Bk.putL_get (g := w.heap.size) [c0, c1, c2, c3, c4, c5, c6, c7, c8, c9, c10] (w.alloc (.cells #[.string ⟨#[]⟩, .int .u8 0, .string ⟨#[]⟩, .int .u8 0, .int .i64 0, .string ⟨#[]⟩, .slice none 0 0, .slice none 0 0, .int .u8 0, .string ⟨#[]⟩, .bool false] 70)) 0 (fun j hj => ⟨_, (hz j hj).trans (List.getElem?_eq_getElem (show j < ([.string ⟨#[]⟩, .int .u8 0, .string ⟨#[]⟩, .int .u8 0, .int .i64 0, .string ⟨#[]⟩, .slice none 0 0, .slice none 0 0, .int .u8 0, .string ⟨#[]⟩, .bool false] : List Value).length from hj))⟩)
  obtain ⟨cur, ho, -⟩ := putL_obj (w.alloc (.cells #[.string ⟨#[]⟩, .int .u8 0, .string ⟨#[]⟩, .int .u8 0, .int .i64 0, .string ⟨#[]⟩, .slice none 0 0, .slice none 0 0, .int .u8 0, .string ⟨#[]⟩, .bool false] 70)) w.heap.size 0 [c0, c1, c2, c3, c4, c5, c6, c7, c8, c9, c10] _ 70 (Go.Deep.blk_alloc_new w _)
  refine ⟨⟨hp 0 (by simp), hp 1 (by simp), hp 2 (by simp), hp 3 (by simp), hp 4 (by simp), hp 5 (by simp), hp 6 (by simp), hp 7 (by simp), hp 8 (by simp), hp 9 (by simp), hp 10 (by simp)⟩, fun r => Lib.frozen_of_heap ho r, Bk.putL_low (g := w.heap.size) (Nat.le_refl _) [c0, c1, c2, c3, c4, c5, c6, c7, c8, c9, c10] (w.alloc (.cells #[.string ⟨#[]⟩, .int .u8 0, .string ⟨#[]⟩, .int .u8 0, .int .i64 0, .string ⟨#[]⟩, .slice none 0 0, .slice none 0 0, .int .u8 0, .string ⟨#[]⟩, .bool false] 70)) 0 (below_alloc w _), by simp⟩
theorem new_c (c0 c1 c2 c3 c4 c5 c6 c7 c8 c9 c10 : Value) (w : World) : ((w.alloc (.cells #[c0, c1, c2, c3, c4, c5, c6, c7, c8, c9, c10] 70)).cell? ⟨w.heap.size, 0, none⟩ = some c0 ∧ (w.alloc (.cells #[c0, c1, c2, c3, c4, c5, c6, c7, c8, c9, c10] 70)).cell? ⟨w.heap.size, 1, none⟩ = some c1 ∧ (w.alloc (.cells #[c0, c1, c2, c3, c4, c5, c6, c7, c8, c9, c10] 70)).cell? ⟨w.heap.size, 2, none⟩ = some c2 ∧ (w.alloc (.cells #[c0, c1, c2, c3, c4, c5, c6, c7, c8, c9, c10] 70)).cell? ⟨w.heap.size, 3, none⟩ = some c3 ∧ (w.alloc (.cells #[c0, c1, c2, c3, c4, c5, c6, c7, c8, c9, c10] 70)).cell? ⟨w.heap.size, 4, none⟩ = some c4 ∧ (w.alloc (.cells #[c0, c1, c2, c3, c4, c5, c6, c7, c8, c9, c10] 70)).cell? ⟨w.heap.size, 5, none⟩ = some c5 ∧ (w.alloc (.cells #[c0, c1, c2, c3, c4, c5, c6, c7, c8, c9, c10] 70)).cell? ⟨w.heap.size, 6, none⟩ = some c6 ∧ (w.alloc (.cells #[c0, c1, c2, c3, c4, c5, c6, c7, c8, c9, c10] 70)).cell? ⟨w.heap.size, 7, none⟩ = some c7 ∧ (w.alloc (.cells #[c0, c1, c2, c3, c4, c5, c6, c7, c8, c9, c10] 70)).cell? ⟨w.heap.size, 8, none⟩ = some c8 ∧ (w.alloc (.cells #[c0, c1, c2, c3, c4, c5, c6, c7, c8, c9, c10] 70)).cell? ⟨w.heap.size, 9, none⟩ = some c9 ∧ (w.alloc (.cells #[c0, c1, c2, c3, c4, c5, c6, c7, c8, c9, c10] 70)).cell? ⟨w.heap.size, 10, none⟩ = some c10) ∧ (∀ r, (w.alloc (.cells #[c0, c1, c2, c3, c4, c5, c6, c7, c8, c9, c10] 70)).frozen? ⟨w.heap.size, r, none⟩ = false) ∧ Below w.heap.size w (w.alloc (.cells #[c0, c1, c2, c3, c4, c5, c6, c7, c8, c9, c10] 70)) ∧ (w.alloc (.cells #[c0, c1, c2, c3, c4, c5, c6, c7, c8, c9, c10] 70)).heap.size = w.heap.size + 1 := by
  have hz := Bk.at_new (w := w) (cs := [c0, c1, c2, c3, c4, c5, c6, c7, c8, c9, c10]) (T := 70) rfl (Below.refl _ _)
  exact ⟨⟨by simp, by simp, by simp, by simp, by simp, by simp, by simp, by simp, by simp, by simp, by simp⟩, fun r => Lib.frozen_of_heap (Go.Deep.blk_alloc_new w _) r, below_alloc w _, by simp⟩
theorem key_c {b : Nat} {w W : World} {bx : Nat} (ck k4 n4 : Int) (la4 : Option Addr) (ll4 lc4 : Nat) (fa4 : Option Addr) (fl4 fc4 : Nat) (e4 : Int) (hk4 : Bool) (cn s4 key4 ckey q : ByteArray) (hbx : b ≤ bx) (hz : W.cell? ⟨bx, 0, none⟩ = some (.string ckey) ∧ W.cell? ⟨bx, 1, none⟩ = some (.int .u8 ck) ∧ W.cell? ⟨bx, 2, none⟩ = some (.string cn) ∧ W.cell? ⟨bx, 3, none⟩ = some (.int .u8 k4) ∧ W.cell? ⟨bx, 4, none⟩ = some (.int .i64 n4) ∧ W.cell? ⟨bx, 5, none⟩ = some (.string s4) ∧ W.cell? ⟨bx, 6, none⟩ = some (.slice la4 ll4 lc4) ∧ W.cell? ⟨bx, 7, none⟩ = some (.slice fa4 fl4 fc4) ∧ W.cell? ⟨bx, 8, none⟩ = some (.int .u8 e4) ∧ W.cell? ⟨bx, 9, none⟩ = some (.string key4) ∧ W.cell? ⟨bx, 10, none⟩ = some (.bool hk4)) (hf : ∀ r, W.frozen? ⟨bx, r, none⟩ = false) (hl : Below b w W) :
    ((W.setCell ⟨bx, 0, none⟩ (.string q)).cell? ⟨bx, 0, none⟩ = some (.string q) ∧ (W.setCell ⟨bx, 0, none⟩ (.string q)).cell? ⟨bx, 1, none⟩ = some (.int .u8 ck) ∧ (W.setCell ⟨bx, 0, none⟩ (.string q)).cell? ⟨bx, 2, none⟩ = some (.string cn) ∧ (W.setCell ⟨bx, 0, none⟩ (.string q)).cell? ⟨bx, 3, none⟩ = some (.int .u8 k4) ∧ (W.setCell ⟨bx, 0, none⟩ (.string q)).cell? ⟨bx, 4, none⟩ = some (.int .i64 n4) ∧ (W.setCell ⟨bx, 0, none⟩ (.string q)).cell? ⟨bx, 5, none⟩ = some (.string s4) ∧ (W.setCell ⟨bx, 0, none⟩ (.string q)).cell? ⟨bx, 6, none⟩ = some (.slice la4 ll4 lc4) ∧ (W.setCell ⟨bx, 0, none⟩ (.string q)).cell? ⟨bx, 7, none⟩ = some (.slice fa4 fl4 fc4) ∧ (W.setCell ⟨bx, 0, none⟩ (.string q)).cell? ⟨bx, 8, none⟩ = some (.int .u8 e4) ∧ (W.setCell ⟨bx, 0, none⟩ (.string q)).cell? ⟨bx, 9, none⟩ = some (.string key4) ∧ (W.setCell ⟨bx, 0, none⟩ (.string q)).cell? ⟨bx, 10, none⟩ = some (.bool hk4)) ∧ (∀ r, (W.setCell ⟨bx, 0, none⟩ (.string q)).frozen? ⟨bx, r, none⟩ = false) ∧ Below b w (W.setCell ⟨bx, 0, none⟩ (.string q)) ∧ (W.setCell ⟨bx, 0, none⟩ (.string q)).heap.size = W.heap.size := by
  obtain ⟨z0, z1, z2, z3, z4, z5, z6, z7, z8, z9, z10⟩ := hz
  have ho : ∀ i, i ≠ 0 → (W.setCell ⟨bx, 0, none⟩ (.string q)).cell? ⟨bx, i, none⟩ = W.cell? ⟨bx, i, none⟩ := fun i hi => World.cell?_setCell_other _ _ _ _ (fun e => hi (by have := congrArg (fun a : Addr => a.off) e; have h2 : 0 = i := (by simpa using this); exact h2.symm))
  exact ⟨⟨World.cell?_setCell_same _ _ _ z0, by rw [ho 1 (by decide)]; exact z1, by rw [ho 2 (by decide)]; exact z2, by rw [ho 3 (by decide)]; exact z3, by rw [ho 4 (by decide)]; exact z4, by rw [ho 5 (by decide)]; exact z5, by rw [ho 6 (by decide)]; exact z6, by rw [ho 7 (by decide)]; exact z7, by rw [ho 8 (by decide)]; exact z8, by rw [ho 9 (by decide)]; exact z9, by rw [ho 10 (by decide)]; exact z10⟩, fun r => by rw [World.frozen?_setCell]; exact hf r, hl.setCell (p := ⟨bx, 0, none⟩) hbx _, by simp⟩
theorem row_slice {W : World} {base : Nat} {T : TypeId} {size n : Nat} {u : Value} {xs : List Value} (h : W.ownsRow base T size u n xs) : ∃ a cap, u = .slice a n cap ∧ n ≤ cap ∧ cap ≤ maxLen := by
  rcases h.2 with ⟨rfl, rfl⟩ | ⟨g, cap, cur, rfl, -, -, h1, h2, -⟩
  · exact ⟨none, 0, rfl, Nat.le_refl _, by decide⟩
  · exact ⟨_, cap, rfl, h1, h2⟩
structure RK (l : List V) (w1 : World) (k : Nat) (o : Value) (W : World) : Prop where
  row : W.ownsRow w1.heap.size 70 11 o (stOf (l.take k)).out.length ((stOf (l.take k)).out.flatMap C.cells)
  low : Below w1.heap.size w1 W
  run : ((stOf (l.take k)).out.length < 4096 ∧ kidsM l = (runK (stOf (l.take k)) (l.drop k)).out) ∨ ((stOf (l.take k)).out.length = 4096 ∧ kidsM l = (stOf (l.take k)).out)
theorem krow_of {W : World} {base : Nat} {u : Value} {cs : List C} (hrow : W.ownsRow base 70 11 u cs.length (cs.flatMap C.cells)) (hvals : ∀ c ∈ cs, c.val.In W) : ∃ a cap, u = .slice a cs.length cap ∧ KRow W a cs ∧ cs.length ≤ cap ∧ cap ≤ maxLen := by
  rcases Nat.eq_zero_or_pos cs.length with h0 | h0
  · rcases hrow.2 with ⟨e, _⟩ | ⟨g, cap, cur, e, _, _, h1, h2, _⟩
    · exact ⟨none, 0, by rw [h0]; exact e, ⟨fun j hj => absurd hj (by omega), hvals⟩, by omega, by decide⟩
    · exact ⟨_, cap, e, ⟨fun j hj => absurd hj (by omega), hvals⟩, h1, h2⟩
  · obtain ⟨g, cap, e, hat, h1, h2, -⟩ := row_open hrow h0
    refine ⟨_, cap, e, ⟨fun j hj => ⟨g, rfl, fun q hq => ?_⟩, hvals⟩, h1, h2⟩
    have h11 : ∀ c ∈ cs, c.cells.length = 11 := fun c hc => c_len (hvals c hc)
    have hq' : q < 11 := by rw [h11 _ (List.getElem_mem hj)] at hq; exact hq
    have := fm_get cs h11 j hj q hq'
    have hlt : j * 11 + q < (cs.flatMap C.cells).length := by
      rw [hrow.1]
      omega
    have h3 := hat (j * 11 + q) hlt
    rw [Nat.zero_add] at h3
    rw [h3, this]
theorem kid_in {w : World} {v : V} {c : C} (h : v.In w) (hk : v.kid = some c) : c.val.In w := by
  cases v with
  | leaf => exact h.elim
  | mk k n s la ll lc L fa fl fc fn F e key hk' =>
    simp only [V.kid] at hk
    split at hk
    · cases hk
      have := itoa_size n h.2.1
      exact vz_in w (by decide) (by decide) (by unfold maxLen; omega)
    · split at hk
      · cases hk
        exact vz_in w (by decide) (by decide) h.2.2.1
      · split at hk
        · cases hk; exact h
        · cases hk
theorem out_in {w : World} (l : List V) (h : ∀ x ∈ l, x.In w) : ∀ c ∈ (stOf l).out, c.val.In w := by
  have key : ∀ (l : List V) (st : St), (∀ x ∈ l, x.In w) → (∀ c ∈ st.out, c.val.In w) → ∀ c ∈ (l.foldl stepK st).out, c.val.In w := by
    intro l
    induction l with
    | nil => exact fun st _ h => h
    | cons v r ih =>
      intro st h1 h2
      refine ih _ (fun x hx => h1 x (List.mem_cons_of_mem _ hx)) fun c hc => ?_
      unfold stepK at hc
      cases hk : v.kid with
      | none => rw [hk] at hc; exact h2 c hc
      | some d =>
        rw [hk] at hc
        rcases List.mem_append.1 hc with q | q
        · exact h2 c q
        · rw [List.mem_singleton] at q
          subst q
          have := kid_in (h1 v (List.mem_cons_self ..)) hk
          exact this
  exact key l _ h (fun c hc => by cases hc)
set_option maxRecDepth 100000 in
set_option maxHeartbeats 8000000 in
theorem rkids_any (la : Option Addr) (ll lc : Nat) (L : Nat → V) (w : World) (h : Lst w la ll lc L) (hb : (listV L ll).length * 112 ≤ 140737488351232) :
    Calls Tryz.prog 8 #[.slice la ll lc] w fun e w' => ∃ u, e = .returned u ∧ ∃ B, w.heap.size ≤ B ∧ w'.ownsRow B 70 11 u (kidsM (listV L ll)).length ((kidsM (listV L ll)).flatMap C.cells) ∧ Below w.heap.size w w' := by
  have HF := Lib.hid (flat_rf la ll lc L w h hb)
  have HA := Lib.hid (list_all h ll (Nat.le_refl _))
  clear h
  generalize listV L ll = l at HF HA hb ⊢
  have HB := Lib.hid hb
  have hlm : l.length ≤ 1256584717421 := by omega
  clear hb
  go_enter Tryz.func8, Tryz.ntmps8
  go_wp2_with (go_at_call 19; (with_reducible refine HF.out.mono ?_); rintro x w1 ⟨u, rfl, hown, hlow⟩; obtain ⟨a1, cp1, rfl, hl1⟩ := lst_of hown (by have := HB.out; omega) (fun x hx => let q := HA.out x hx; ⟨q.1.below hlow, q.2⟩); have HL1 := Lib.hid hl1; have HB1 := Lib.hid hlow; clear hown hlow hl1)
  have HA1 := Lib.hid (fun x (hx : x ∈ l) => (HA.out x hx).1.below HB1.out)
  go_loopw [4, 5] (fun o i wr => ∃ k : Nat, k ≤ l.length ∧ i = .int .i64 k ∧ RK l w1 k o wr) (fun _ i _ => l.length - (intOf i).toNat)
  case atStart => exact ⟨0, Nat.zero_le _, rfl, ⟨World.ownsRow_nil _ _ _ _, Below.refl _ _, .inl ⟨by simp [stOf], by simp [stOf, kidsM]⟩⟩⟩
  case round =>
    rename_i o i
    obtain ⟨k, hk, rfl, ok⟩ := hrel
    obtain ⟨oa, oc, rfl, hoc1, hoc2⟩ := row_slice ok.row
    unfold maxLen at hoc2
    have OK := Lib.hid ok
    clear ok
    have FINI : Hid (kidsM l = (stOf (l.take k)).out → ∃ B, w.heap.size ≤ B ∧ wr.ownsRow B 70 11 (.slice oa (stOf (l.take k)).out.length oc) (kidsM l).length ((kidsM l).flatMap C.cells) ∧ Below w.heap.size w wr) := Lib.hid (fun e => ⟨w1.heap.size, HB1.out.size, by rw [e]; exact OK.out.row, HB1.out.trans (OK.out.low.mono HB1.out.size)⟩)
    by_cases hkl : k < l.length
    · have hk1 : (k : Int) < (l.length : Int) := by omega
      have hk0 : (0 : Int) ≤ (k : Int) := by omega
      rcases OK.out.run with ⟨h4, hrun⟩ | ⟨h4, hdone⟩
      · obtain ⟨hst, hnext⟩ := run_step hkl hrun
        obtain ⟨⟨b1, o1, rfl, hat⟩, hin⟩ := HL1.out.els k hkl
        have hg : gV l k = l[k] := by simp [gV, hkl]
        rw [hg] at hat hin
        have hfk := (HA.out _ (List.getElem_mem hkl)).2
        have hplace : (stOf (l.take k)).place = k := by rw [stOf_place, List.length_take]; omega
        have hseen := seen_of (l.take k)
        have hvals := out_in (l.take k) (fun x hx => HA1.out x (List.mem_of_mem_take hx))
        have hrow := OK.out.row
        have hlow := OK.out.low
        clear FINI hrun hg OK
        generalize l[k] = v at hat hin hfk hst hnext
        generalize stOf (l.take k) = st at hst hnext hplace hseen hvals hrow h4 hoc1 ⊢
        have HFIN : Hid (∀ (o' : Value) (W' : World) (cs' : List C), (stepK st v).out = cs' → W'.ownsRow w1.heap.size 70 11 o' cs'.length (cs'.flatMap C.cells) → Below w1.heap.size w1 W' → RK l w1 (k + 1) o' W') := Lib.hid (fun o' W' cs' e hr hl => by
          refine ⟨by rw [hst, e]; exact hr, hl, ?_⟩
          have ho := out_step st v
          split at hnext
          · rename_i q; exact .inr ⟨by rw [hst]; exact q, by rw [hst]; exact hnext⟩
          · rename_i q; exact .inl ⟨by rw [hst]; omega, hnext⟩)
        have HST := Lib.hid (show ∀ d, v.kid = some d → (stepK st v).out = st.out ++ [⟨(keyM st.seen v (wrap64 st.place)).1, d.kind, d.name, d.val⟩] from fun d hd => by unfold stepK; rw [hd])
        have HS0 := Lib.hid (show v.kid = none → (stepK st v).out = st.out from fun hd => by unfold stepK; rw [hd])
        have HRC := Lib.hid (rchild_any v wr (hin.below hlow))
        have HKI := Lib.hid (fun d (hd : v.kid = some d) => kid_in hin hd)
        clear hst hnext
        cases v with
        | leaf => exact hin.elim
        | mk k2 n2 s2 la2 ll2 lc2 L2 fa2 fl2 fc2 fn2 F2 e2 key2 hk2 =>
        obtain ⟨c0, c1, c2, c3, c4, c5, c6, c7⟩ := at8 (At.below hlow hat)
        have HAT := Lib.hid hat
        have HR := Lib.hid (And.intro hrow hlow)
        clear hat hrow hlow
        have h40 : ((st.out.length : Int)) < 4096 := by omega
        generalize hkid : (V.mk k2 n2 s2 la2 ll2 lc2 L2 fa2 fl2 fc2 fn2 F2 e2 key2 hk2).kid = kd at HRC HST HS0 HKI
        simp only [V.agg, V.cells] at HRC
        unfold ChildPost at HRC
        rw [hkid] at HRC
        cases kd with
        | none =>
          have HE := Lib.hid (HS0.out rfl)
          have HBX := Lib.hid (fun w2 => box_c (.string ⟨#[]⟩) (.int .u8 0) (.string ⟨#[]⟩) (.int .u8 0) (.int .i64 0) (.string ⟨#[]⟩) (.slice none 0 0) (.slice none 0 0) (.int .u8 0) (.string ⟨#[]⟩) (.bool false) w2)
          clear HST HS0 HKI hkid
          simp only [Option.getD_none, Option.isSome_none, nc, nv, vz, C.agg, C.cells, V.cells] at HRC
          go_upto_region 7 with (go_at_call 20; (with_reducible refine HRC.out.mono ?_); rintro x w2 ⟨rfl, hb2⟩; have HB2 := Lib.hid hb2; clear hb2)
          have HX := Lib.hid (below_alloc w2 (.cells #[.string ⟨#[]⟩, .int .u8 0, .string ⟨#[]⟩, .int .u8 0, .int .i64 0, .string ⟨#[]⟩, .slice none 0 0, .slice none 0 0, .int .u8 0, .string ⟨#[]⟩, .bool false] 70))
          clear HBX HRC
          revert HX
          generalize w2.alloc (.cells #[.string ⟨#[]⟩, .int .u8 0, .string ⟨#[]⟩, .int .u8 0, .int .i64 0, .string ⟨#[]⟩, .slice none 0 0, .slice none 0 0, .int .u8 0, .string ⟨#[]⟩, .bool false] 70) = W3
          intro HX
          have HW3 : Hid (Below wr.heap.size wr W3) := HB2.out.trans (HX.out.mono HB2.out.size)
          clear HX HB2
          go_wp2_with fail
          refine ⟨⟨k + 1, hkl, by go_num, HFIN.out _ _ _ HE.out (ownsRow_below HR.out.1 HW3.out) (HR.out.2.trans (HW3.out.mono HR.out.2.size))⟩, by simp [intOf]; omega⟩
        | some c =>
          obtain ⟨ckey, ck, cn, cv⟩ := c
          have hci := HKI.out _ rfl
          have HE := Lib.hid (HST.out _ rfl)
          clear HST HS0 HKI hkid
          simp only at hci HE
          cases cv with
          | leaf => exact hci.elim
          | mk k4 n4 s4 la4 ll4 lc4 L4 fa4 fl4 fc4 fn4 F4 e4 key4 hk4 =>
          simp only [Option.getD_some, Option.isSome_some, C.agg, C.cells, V.cells] at HRC
          go_upto_region 7 with (go_at_call 20; (with_reducible refine HRC.out.mono ?_); rintro x w2 ⟨rfl, hb2⟩; have HB2 := Lib.hid hb2; clear hb2)
          have HX := Lib.hid (new_c (.string ckey) (.int .u8 ck) (.string cn) (.int .u8 k4) (.int .i64 n4) (.string s4) (.slice la4 ll4 lc4) (.slice fa4 fl4 fc4) (.int .u8 e4) (.string key4) (.bool hk4) w2)
          clear HRC c0 c1 c2 c3 c4 c5 c6 c7
          revert HX
          generalize w2.alloc (.cells #[.string ckey, .int .u8 ck, .string cn, .int .u8 k4, .int .i64 n4, .string s4, .slice la4 ll4 lc4, .slice fa4 fl4 fc4, .int .u8 e4, .string key4, .bool hk4] 70) = W3
          intro HX
          have HW3 : Hid (Below wr.heap.size wr W3) := HB2.out.trans (HX.out.2.2.1.mono HB2.out.size)
          have HBXG : Hid (wr.heap.size ≤ w2.heap.size) := Lib.hid HB2.out.size
          clear HB2
          generalize w2.heap.size = bx at HX HBXG ⊢
          obtain ⟨⟨z0, z1, z2, z3, z4, z5, z6, z7, z8, z9, z10⟩, hfz, hbl, hsz⟩ := HX.out
          have HCEL : Hid (∀ W, Below W3.heap.size W3 W → (W.cell? ⟨bx, 0, none⟩ = some (.string ckey) ∧ W.cell? ⟨bx, 1, none⟩ = some (.int .u8 ck) ∧ W.cell? ⟨bx, 2, none⟩ = some (.string cn) ∧ W.cell? ⟨bx, 3, none⟩ = some (.int .u8 k4) ∧ W.cell? ⟨bx, 4, none⟩ = some (.int .i64 n4) ∧ W.cell? ⟨bx, 5, none⟩ = some (.string s4) ∧ W.cell? ⟨bx, 6, none⟩ = some (.slice la4 ll4 lc4) ∧ W.cell? ⟨bx, 7, none⟩ = some (.slice fa4 fl4 fc4) ∧ W.cell? ⟨bx, 8, none⟩ = some (.int .u8 e4) ∧ W.cell? ⟨bx, 9, none⟩ = some (.string key4) ∧ W.cell? ⟨bx, 10, none⟩ = some (.bool hk4)) ∧ ∀ r, W.frozen? ⟨bx, r, none⟩ = false) := Lib.hid (fun W hb => by
            have hlt : bx < W3.heap.size := by omega
            exact ⟨⟨by rw [hb.cell (p := ⟨bx, 0, none⟩) hlt]; exact z0, by rw [hb.cell (p := ⟨bx, 1, none⟩) hlt]; exact z1, by rw [hb.cell (p := ⟨bx, 2, none⟩) hlt]; exact z2, by rw [hb.cell (p := ⟨bx, 3, none⟩) hlt]; exact z3, by rw [hb.cell (p := ⟨bx, 4, none⟩) hlt]; exact z4, by rw [hb.cell (p := ⟨bx, 5, none⟩) hlt]; exact z5, by rw [hb.cell (p := ⟨bx, 6, none⟩) hlt]; exact z6, by rw [hb.cell (p := ⟨bx, 7, none⟩) hlt]; exact z7, by rw [hb.cell (p := ⟨bx, 8, none⟩) hlt]; exact z8, by rw [hb.cell (p := ⟨bx, 9, none⟩) hlt]; exact z9, by rw [hb.cell (p := ⟨bx, 10, none⟩) hlt]; exact z10⟩, fun r => by rw [hb.frozen (p := ⟨bx, r, none⟩) hlt]; exact hfz r⟩)
          have HSZ := Lib.hid hsz
          have y0 := hfz 0
          have HDG := Lib.hid (fun W => rdigits_any k W (by omega))
          have hil := Lib.itoa_length_le (k : Int) (by omega) (by omega)
          have hl2 : ¬ 9223372036854775807 < 2 + (Lib.itoa (k : Int)).length := by omega
          clear hfz hbl hsz HX
          go_upto_region 9 with (go_at_call 21; (with_reducible refine (HDG.out _).mono ?_); rintro x w4 ⟨rfl, hb4⟩; clear z0 z1 z2 z3 z4 z5 z6 z7 z8 z9 z10 y0; obtain ⟨⟨z0, z1, z2, z3, z4, z5, z6, z7, z8, z9, z10⟩, hfz4⟩ := HCEL.out _ hb4; have y0 := hfz4 0; have HB4 := Lib.hid hb4; clear hb4 hfz4)
          obtain ⟨ik, hik⟩ : ∃ q, q = (⟨#[105, 58]⟩ ++ ⟨(Lib.itoa (k : Int)).toArray⟩ : ByteArray) := ⟨_, rfl⟩
          rw [← hik]
          have HIK : Hid (ik = iKey (k : Int)) := Lib.hid hik
          have H6 := Lib.hid (key_c (b := wr.heap.size) (w := wr) ck k4 n4 la4 ll4 lc4 fa4 fl4 fc4 e4 hk4 cn s4 key4 _ ik HBXG.out ⟨z0, z1, z2, z3, z4, z5, z6, z7, z8, z9, z10⟩ (HCEL.out _ HB4.out).2 (HW3.out.trans (HB4.out.mono HW3.out.size)))
          clear z0 z1 z2 z3 z4 z5 z6 z7 z8 z9 z10 y0 HCEL HB4 HW3 HSZ HDG hl2 hil hik
          revert H6
          generalize w4.setCell ⟨bx, 0, none⟩ (.string ik) = W5
          intro H6
          have hB5 : Below w1.heap.size w1 W5 := HR.out.2.trans (H6.out.2.2.1.mono HR.out.2.size)
          obtain ⟨c0, c1, c2, c3, c4, c5, c6, c7⟩ := at8 (At.below hB5 HAT.out)
          have hkr : ∃ a cap, (Value.slice oa st.out.length oc) = .slice a st.out.length cap ∧ KRow W5 a st.out ∧ st.out.length ≤ cap ∧ cap ≤ maxLen := krow_of (ownsRow_below HR.out.1 H6.out.2.2.1) (fun c hc => (hvals c hc).below hB5)
          obtain ⟨qa, qc, hqe, hqk, hq1, hq2⟩ := hkr
          have hqe1 : oa = qa := by cases hqe; rfl
          have hqe2 : oc = qc := by cases hqe; rfl
          subst hqe1 hqe2
          have HHAS : Hid (Calls Tryz.prog 22 #[.slice oa st.out.length oc, .string (⟨#[107, 58]⟩ ++ key2)] W5 fun x w' => x = .returned (.bool (hasK st.out (kKey key2))) ∧ W5 = w') := Lib.hid (rhas_any oa oc st.out (kKey key2) W5 hqk ⟨hq1, hq2⟩)
          have hkz := hfk.2.1
          have hkz2 : ¬ 9223372036854775807 < 2 + key2.size := by omega
          have HSEEN : Hid ((kKey key2).data.toList ∈ st.seen ↔ hasK st.out (kKey key2) = true) := Lib.hid ((hseen key2).trans (by simp [hasK]))
          have hwp : wrap64 (st.place : Int) = (k : Int) := by rw [hplace]; unfold wrap64; omega
          simp only [keyM, hwp] at HE
          generalize hasK st.out (kKey key2) = hq at HHAS HSEEN
          clear hB5 hqk hq1 hq2 hqe hseen hvals hplace hfk hwp
          by_cases h6 : k2 = 6
          · subst h6
            cases hk2 with
            | true =>
              cases hq with
              | true =>
                go_upto_region 11 with (go_at_call 22; (with_reducible refine HHAS.out.mono ?_); rintro x w6 ⟨rfl, rfl⟩)
                obtain ⟨⟨z0, z1, z2, z3, z4, z5, z6, z7, z8, z9, z10⟩, hf6, hb6, hs6⟩ := H6.out
                have HROW6 := Lib.hid (ownsRow_below HR.out.1 hb6)
                have HB6 := Lib.hid hb6
                have HKE := Lib.hid (HE.out.trans (show _ = st.out ++ [⟨ik, ck, cn, V.mk k4 n4 s4 la4 ll4 lc4 L4 fa4 fl4 fc4 fn4 F4 e4 key4 hk4⟩] from by rw [if_neg (fun q => q.2.2 (HSEEN.out.2 (by first | rfl | trivial))), HIK.out]))
                clear H6 hf6 hb6 hs6
                go_wp2_with (at_builtin; refine append_kid HROW6.out (Nat.le_trans HR.out.2.size HB6.out.size) rfl _ _ rfl rfl ⟨ik, ck, cn, .mk k4 n4 s4 la4 ll4 lc4 L4 fa4 fl4 fc4 fn4 F4 e4 key4 hk4⟩ rfl _ rfl (by omega) ?_; intro u3 w7 hown7 hlow7; have H7 := Lib.hid (And.intro hown7 ((HR.out.2.trans (HB6.out.mono HR.out.2.size)).trans hlow7)); clear hown7 hlow7)
                refine ⟨⟨k + 1, hkl, by go_num, HFIN.out _ _ _ HKE.out (by rw [List.length_append, List.flatMap_append]; simpa using H7.out.1) H7.out.2⟩, by simp [intOf]; omega⟩
              | false =>
                go_upto_region 11 with (go_at_call 22; (with_reducible refine HHAS.out.mono ?_); rintro x w6 ⟨rfl, rfl⟩; obtain ⟨⟨z0, z1, z2, z3, z4, z5, z6, z7, z8, z9, z10⟩, hf6, hb6, hs6⟩ := H6.out; have y0 := hf6 0)
                obtain ⟨kq, hkq⟩ : ∃ q, q = (⟨#[107, 58]⟩ ++ key2 : ByteArray) := ⟨_, rfl⟩
                rw [← hkq]
                have HKQ : Hid (kq = kKey key2) := Lib.hid hkq
                replace H6 := Lib.hid (key_c (b := wr.heap.size) (w := wr) ck k4 n4 la4 ll4 lc4 fa4 fl4 fc4 e4 hk4 cn s4 key4 _ kq HBXG.out H6.out.1 H6.out.2.1 H6.out.2.2.1)
                clear hkq hf6 hb6 hs6 y0 z0 z1 z2 z3 z4 z5 z6 z7 z8 z9 z10
                revert H6
                generalize W5.setCell ⟨bx, 0, none⟩ (.string kq) = W8
                intro H6
                obtain ⟨⟨z0, z1, z2, z3, z4, z5, z6, z7, z8, z9, z10⟩, hf6, hb6, hs6⟩ := H6.out
                have HROW6 := Lib.hid (ownsRow_below HR.out.1 hb6)
                have HB6 := Lib.hid hb6
                have HKE := Lib.hid (HE.out.trans (show _ = st.out ++ [⟨kq, ck, cn, V.mk k4 n4 s4 la4 ll4 lc4 L4 fa4 fl4 fc4 fn4 F4 e4 key4 hk4⟩] from by rw [if_pos ⟨by first | rfl | trivial, by first | rfl | trivial, fun q => by have := HSEEN.out.1 q; simp at this⟩, HKQ.out]))
                clear H6 hf6 hb6 hs6
                go_wp2_with (at_builtin; refine append_kid HROW6.out (Nat.le_trans HR.out.2.size HB6.out.size) rfl _ _ rfl rfl ⟨kq, ck, cn, .mk k4 n4 s4 la4 ll4 lc4 L4 fa4 fl4 fc4 fn4 F4 e4 key4 hk4⟩ rfl _ rfl (by omega) ?_; intro u3 w7 hown7 hlow7; have H7 := Lib.hid (And.intro hown7 ((HR.out.2.trans (HB6.out.mono HR.out.2.size)).trans hlow7)); clear hown7 hlow7)
                refine ⟨⟨k + 1, hkl, by go_num, HFIN.out _ _ _ HKE.out (by rw [List.length_append, List.flatMap_append]; simpa using H7.out.1) H7.out.2⟩, by simp [intOf]; omega⟩
            | false =>
              go_upto_region 11 with fail
              obtain ⟨⟨z0, z1, z2, z3, z4, z5, z6, z7, z8, z9, z10⟩, hf6, hb6, hs6⟩ := H6.out
              have HROW6 := Lib.hid (ownsRow_below HR.out.1 hb6)
              have HB6 := Lib.hid hb6
              have HKE := Lib.hid (HE.out.trans (show _ = st.out ++ [⟨ik, ck, cn, V.mk k4 n4 s4 la4 ll4 lc4 L4 fa4 fl4 fc4 fn4 F4 e4 key4 hk4⟩] from by rw [if_neg (fun q => Bool.noConfusion q.2.1), HIK.out]))
              clear H6 hf6 hb6 hs6
              go_wp2_with (at_builtin; refine append_kid HROW6.out (Nat.le_trans HR.out.2.size HB6.out.size) rfl _ _ rfl rfl ⟨ik, ck, cn, .mk k4 n4 s4 la4 ll4 lc4 L4 fa4 fl4 fc4 fn4 F4 e4 key4 hk4⟩ rfl _ rfl (by omega) ?_; intro u3 w7 hown7 hlow7; have H7 := Lib.hid (And.intro hown7 ((HR.out.2.trans (HB6.out.mono HR.out.2.size)).trans hlow7)); clear hown7 hlow7)
              refine ⟨⟨k + 1, hkl, by go_num, HFIN.out _ _ _ HKE.out (by rw [List.length_append, List.flatMap_append]; simpa using H7.out.1) H7.out.2⟩, by simp [intOf]; omega⟩
          · have hd6 : (k2 == 6) = false := by rw [beq_eq_false_iff_ne]; exact h6
            go_upto_region 11 with fail
            obtain ⟨⟨z0, z1, z2, z3, z4, z5, z6, z7, z8, z9, z10⟩, hf6, hb6, hs6⟩ := H6.out
            have HROW6 := Lib.hid (ownsRow_below HR.out.1 hb6)
            have HB6 := Lib.hid hb6
            have HKE := Lib.hid (HE.out.trans (show _ = st.out ++ [⟨ik, ck, cn, V.mk k4 n4 s4 la4 ll4 lc4 L4 fa4 fl4 fc4 fn4 F4 e4 key4 hk4⟩] from by rw [if_neg (fun q => h6 q.1), HIK.out]))
            clear H6 hf6 hb6 hs6
            go_wp2_with (at_builtin; refine append_kid HROW6.out (Nat.le_trans HR.out.2.size HB6.out.size) rfl _ _ rfl rfl ⟨ik, ck, cn, .mk k4 n4 s4 la4 ll4 lc4 L4 fa4 fl4 fc4 fn4 F4 e4 key4 hk4⟩ rfl _ rfl (by omega) ?_; intro u3 w7 hown7 hlow7; have H7 := Lib.hid (And.intro hown7 ((HR.out.2.trans (HB6.out.mono HR.out.2.size)).trans hlow7)); clear hown7 hlow7)
            refine ⟨⟨k + 1, hkl, by go_num, HFIN.out _ _ _ HKE.out (by rw [List.length_append, List.flatMap_append]; simpa using H7.out.1) H7.out.2⟩, by simp [intOf]; omega⟩
      · have HFI := Lib.hid (FINI.out hdone)
        have h5 : ¬ ((stOf (l.take k)).out.length : Int) < 4096 := by omega
        replace h4 := Lib.hid h4
        clear FINI hdone
        go_wp2_with fail
        go_ret
        exact ⟨.slice oa _ oc, rfl, HFI.out⟩
    · obtain rfl : k = l.length := by omega
      have hk1 : ¬ (l.length : Int) < (l.length : Int) := by omega
      have hdone : kidsM l = (stOf (l.take l.length)).out := by
        rcases OK.out.run with ⟨h4, hrun⟩ | ⟨h4, hdone⟩
        · rw [hrun, List.drop_length]; rfl
        · exact hdone
      have HFI := Lib.hid (FINI.out hdone)
      clear FINI hdone
      go_wp2_with fail
      go_ret
      obtain ⟨B, q1, q2, q3⟩ := HFI.out
      rw [List.take_length] at q2
      exact ⟨.slice oa _ oc, rfl, B, q1, q2, q3⟩
end Go.Proofs.YtnmindcofdcncaaGreatDoor.Rk
