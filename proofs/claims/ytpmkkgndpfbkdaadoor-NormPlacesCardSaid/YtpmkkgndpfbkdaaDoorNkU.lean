/-
  Plain: no two children have one key, each key has its mark, kinds and names are such as a child has; there are never more than there may be ('kids_good').
  Conditions: no more values are gone through than a place can count.
-/
import Derived.Test.YtpmkkgndpfbkdaaDoorNkF
import Derived.Test.YtpmkkgndpfbkdaaDoorOneP
namespace Go.Proofs.YtpmkkgndpfbkdaaDoor
set_option linter.unusedVariables false
set_option linter.unusedSimpArgs false
open Go.RowKit Go.Deep Go.WideShapes

theorem append_toList (a b : ByteArray) : (ByteArray.append a b).data.toList = a.data.toList ++ b.data.toList := by
  have : ByteArray.append a b = a ++ b := rfl
  rw [this, ByteArray.data_append, Array.toList_append]
theorem iKey_list (p : Int) : (iKey p).data.toList = 105 :: 58 :: Lib.itoa p := by
  unfold iKey; rw [append_toList]; rfl
theorem kKey_list (k : ByteArray) : (kKey k).data.toList = 107 :: 58 :: k.data.toList := by
  unfold kKey; rw [append_toList]; rfl
theorem ik_ne (p : Int) (k : ByteArray) : iKey p ≠ kKey k := fun h => by
  have := congrArg (fun b => b.data.toList) h
  simp only [iKey_list, kKey_list, List.cons.injEq] at this
  exact absurd this.1 (by decide)
theorem iKey_inj {p q : Int} (h : iKey p = iKey q) : p = q := by
  have := congrArg (fun b => b.data.toList) h
  simp only [iKey_list, List.cons.injEq, true_and] at this
  exact itoa_inj this

/-- What a child may be. -/
def Good (c : C) : Prop := (c.key.data.toList.take 2 = [107, 58] ∨ c.key.data.toList.take 2 = [105, 58]) ∧ 0 < c.kind ∧ c.kind ≤ 9 ∧ (c.kind = 9 → c.name = ⟨#[]⟩)

structure Inv (st : St) : Prop where
  apart : st.out.Pairwise (fun a b => a.key ≠ b.key)
  from_ : ∀ c ∈ st.out, (∃ p : Nat, p < st.place ∧ c.key = iKey p) ∨ (∃ k, c.key = kKey k ∧ c.key.data.toList ∈ st.seen)
  good : ∀ c ∈ st.out, Good c

theorem kid_good {v : V} {c : C} (h : v.kid = some c) : 0 < c.kind ∧ c.kind ≤ 9 ∧ (c.kind = 9 → c.name = ⟨#[]⟩) := by
  cases v with
  | leaf => cases h
  | mk k n s la ll lc L fa fl fc fn F e key hk =>
    simp only [V.kid, textC] at h
    split at h
    · cases h; exact ⟨show (0 : Int) < 9 by decide, show (9 : Int) ≤ 9 by decide, fun _ => rfl⟩
    · split at h
      · cases h; exact ⟨show (0 : Int) < 9 by decide, show (9 : Int) ≤ 9 by decide, fun _ => rfl⟩
      · split at h
        · rename_i he
          cases h
          exact ⟨he.2.1, by show e ≤ 9; omega, fun q => by have : e = 9 := q; omega⟩
        · cases h

theorem wrap_small {p : Nat} (h : p < 4611686018427387904) : wrap64 (p : Int) = p := by unfold wrap64; omega

theorem Inv.step {st : St} (h : Inv st) (v : V) (hp : st.place < 4611686018427387904) : Inv (stepK st v) := by
  unfold stepK
  cases hkid : v.kid with
  | none => exact ⟨h.apart, fun c hc => (h.from_ c hc).imp (fun ⟨p, h1, h2⟩ => ⟨p, Nat.lt_succ_of_lt h1, h2⟩) id, h.good⟩
  | some c =>
    have hg := kid_good hkid
    rw [wrap_small hp]
    have hkey : ((keyM st.seen v st.place).1 = iKey st.place ∧ (keyM st.seen v st.place).2 = st.seen) ∨ ∃ k, (kKey k).data.toList ∉ st.seen ∧ (keyM st.seen v st.place).1 = kKey k ∧ (keyM st.seen v st.place).2 = st.seen ++ [(kKey k).data.toList] := by
      cases v with
      | leaf => exact .inl ⟨rfl, rfl⟩
      | mk k n s la ll lc L fa fl fc fn F e key hk =>
        by_cases hq : k = 6 ∧ hk = true ∧ (kKey key).data.toList ∉ st.seen
        · exact .inr ⟨key, hq.2.2, by rw [keyM, if_pos hq], by rw [keyM, if_pos hq]⟩
        · exact .inl ⟨by rw [keyM, if_neg hq], by rw [keyM, if_neg hq]⟩
    rcases hkey with ⟨e1, e2⟩ | ⟨k, hns, e1, e2⟩
    · rw [e1, e2]
      refine ⟨?_, fun d hd => ?_, fun d hd => ?_⟩
      · rw [List.pairwise_append]
        refine ⟨h.apart, List.pairwise_singleton _ _, fun a ha b hb => ?_⟩
        rw [List.mem_singleton] at hb
        subst hb
        intro e
        rcases h.from_ a ha with ⟨p, h1, h2⟩ | ⟨k, h1, h2⟩
        · have := iKey_inj (h2.symm.trans e)
          omega
        · exact ik_ne _ _ (e.symm.trans h1)
      · rcases List.mem_append.1 hd with hd | hd
        · exact (h.from_ d hd).imp (fun ⟨p, h1, h2⟩ => ⟨p, Nat.lt_succ_of_lt h1, h2⟩) id
        · rw [List.mem_singleton] at hd
          subst hd
          exact .inl ⟨st.place, Nat.lt_succ_self _, rfl⟩
      · rcases List.mem_append.1 hd with hd | hd
        · exact h.good d hd
        · rw [List.mem_singleton] at hd
          subst hd
          exact ⟨.inr (by simp only [iKey_list]; rfl), hg⟩
    · rw [e1, e2]
      refine ⟨?_, fun d hd => ?_, fun d hd => ?_⟩
      · rw [List.pairwise_append]
        refine ⟨h.apart, List.pairwise_singleton _ _, fun a ha b hb => ?_⟩
        rw [List.mem_singleton] at hb
        subst hb
        intro e
        rcases h.from_ a ha with ⟨p, h1, h2⟩ | ⟨k', h1, h2⟩
        · exact ik_ne _ _ (h2.symm.trans e)
        · have e' : a.key = kKey k := e
          rw [e'] at h2
          exact hns h2
      · rcases List.mem_append.1 hd with hd | hd
        · exact (h.from_ d hd).imp (fun ⟨p, h1, h2⟩ => ⟨p, Nat.lt_succ_of_lt h1, h2⟩) (fun ⟨k, h1, h2⟩ => ⟨k, h1, List.mem_append_left _ h2⟩)
        · rw [List.mem_singleton] at hd
          subst hd
          exact .inr ⟨k, rfl, List.mem_append_right _ (List.mem_singleton.2 rfl)⟩
      · rcases List.mem_append.1 hd with hd | hd
        · exact h.good d hd
        · rw [List.mem_singleton] at hd
          subst hd
          exact ⟨.inl (by simp only [kKey_list]; rfl), hg⟩

theorem Inv.run : ∀ (vs : List V) (st : St), Inv st → st.place + vs.length ≤ 4611686018427387904 → st.out.length < 4096 → Inv (runK st vs) ∧ (runK st vs).out.length ≤ 4096
  | [], st, h, _, hl => ⟨h, Nat.le_of_lt hl⟩
  | v :: r, st, h, hp, hl => by
    have hs := h.step v (by simp at hp; omega)
    rw [runK]
    split
    · rename_i h9
      exact ⟨hs, by omega⟩
    · rename_i h9
      refine Inv.run r _ hs (by rw [place_step]; simp at hp; omega) ?_
      rcases out_step st v with e | e <;> omega

theorem kids_good (vs : List V) (h : vs.length ≤ 4611686018427387904) : (kidsM vs).Pairwise (fun a b => a.key ≠ b.key) ∧ (∀ c ∈ kidsM vs, Good c) ∧ (kidsM vs).length ≤ 4096 := by
  have := Inv.run vs ⟨0, [], []⟩ ⟨List.Pairwise.nil, fun c hc => (by cases hc), fun c hc => (by cases hc)⟩ (by simpa using h) (by decide)
  exact ⟨this.1.apart, this.1.good, this.2⟩
/-- No more are gone through than there are parts. -/
theorem flat_size : ∀ v : V, v.flatV.length ≤ v.size := by
  intro v
  induction v with
  | leaf => exact Nat.le_refl _
  | mk k n s la ll lc L fa fl fc fn F e key hk ihL ihF =>
    unfold V.flatV V.size
    split
    · have : ((List.range ll).flatMap (fun i => (L i).flatV)).length ≤ sumTo ll (fun i => (L i).size) := by
        clear fl F ihF
        induction ll with
        | zero => simp [sumTo]
        | succ ll ih =>
          rw [List.range_succ, List.flatMap_append, List.length_append, sumTo]
          have := ihL ll
          simp only [List.flatMap_cons, List.flatMap_nil, List.append_nil]
          omega
      omega
    · simp; omega
theorem list_size (L : Nat → V) : ∀ n, (listV L n).length ≤ sumTo n (fun i => (L i).size)
  | 0 => by simp [listV, sumTo]
  | n + 1 => by
    rw [listV_succ, List.length_append, sumTo]
    have a := list_size L n
    have b := flat_size (L n)
    omega
end Go.Proofs.YtpmkkgndpfbkdaaDoor
