/-
  Kids over any list of values that lies in memory ('kids_any'): what is gone through as a function of the values alone ('listV'); norm.Alike; the law's host.
  Conditions: the values lie in memory, each list and each key takes no more than the reach; the three tables hold what the program's text lays in them.
-/
import Derived.Test.YtpmkkgndpfbkdaaDoorNkZ
namespace Go.Proofs.YtpmkkgndpfbkdaaDoor
set_option linter.unusedVariables false
set_option linter.unusedSimpArgs false
open Go.RowKit Go.Deep Go.WideShapes
open Go.Maps hiding size

/-- What a value comes to, gone through. -/
def V.flatV : V → List V
  | .leaf => []
  | .mk k n s la ll lc L fa fl fc fn F e key hk => if k = 4 then (List.range ll).flatMap (fun i => (L i).flatV) else [.mk k n s la ll lc L fa fl fc fn F e key hk]
def listV (L : Nat → V) (n : Nat) : List V := (List.range n).flatMap (fun i => (L i).flatV)
theorem flat_vs : ∀ (v : V) (b o : Nat), (v.flatA b o).map El.v = v.flatV := by
  intro v
  induction v with
  | leaf => intro b o; rfl
  | mk k n s la ll lc L fa fl fc fn F e key hk ihL ihF =>
    intro b o
    unfold V.flatA V.flatV
    split
    · rw [List.map_flatMap]
      exact congrArg (fun g => (List.range ll).flatMap g) (funext fun i => ihL i _ _)
    · rfl
theorem list_vs (la : Option Addr) (L : Nat → V) (n : Nat) : vsOf (listA la L n) = listV L n := by
  unfold vsOf listA listV
  rw [List.map_flatMap]
  exact congrArg (fun g => (List.range n).flatMap g) (funext fun i => flat_vs _ _ _)
theorem listV_succ (L : Nat → V) (j : Nat) : listV L (j + 1) = listV L j ++ (L j).flatV := by
  unfold listV
  rw [List.range_succ, List.flatMap_append]
  simp

/-- Each key takes no more than the reach. -/
def V.Keys : V → Prop
  | .leaf => True
  | .mk _ _ _ _ ll _ L _ _ _ _ _ _ key _ => key.size ≤ 140737488351232 ∧ ∀ i, i < ll → (L i).Keys

theorem flat_ok {w : World} : ∀ (v : V) (b o : Nat), v.In w → v.Fit → v.Keys → At w b o v.cells → ∀ x ∈ v.flatA b o, x.Ok w := by
  intro v
  induction v with
  | leaf => intro b o h; exact h.elim
  | mk k n s la ll lc L fa fl fc fn F e key hk ihL ihF =>
    intro b o h hf hk' ha x hx
    unfold V.flatA at hx
    split at hx
    · obtain ⟨i, hi, hx⟩ := List.mem_flatMap.1 hx
      rw [List.mem_range] at hi
      obtain ⟨⟨b', o', rfl, ha'⟩, hin⟩ := h.2.2.2.2.2.2.2.1 i hi
      exact ihL i b' (o' + i * 8) hin (hf.2.2.1 i hi) (hk'.2 i hi) ha' x hx
    · rw [List.mem_singleton] at hx
      subst hx
      exact ⟨h, hf, ha, fun k n s la ll lc L fa fl fc fn F e key hk e => by cases e; exact hk'.1⟩

/-- A list of values lies in memory. -/
structure Lst (w : World) (la : Option Addr) (ll lc : Nat) (L : Nat → V) : Prop where
  cap : ll ≤ lc ∧ lc ≤ maxLen
  els : ∀ i, i < ll → (∃ b o, la = some ⟨b, o, none⟩ ∧ At w b (o + i * 8) (L i).cells) ∧ (L i).In w
  fit : ll * 112 ≤ 140737488355328 ∧ ∀ i, i < ll → (L i).Fit
  key : ∀ i, i < ll → (L i).Keys
theorem Lst.below {w w' : World} {la : Option Addr} {ll lc : Nat} {L : Nat → V} (h : Lst w la ll lc L) (hb : Below w.heap.size w w') : Lst w' la ll lc L :=
  ⟨h.cap, fun i hi => let ⟨⟨b, o, e, ha⟩, hi'⟩ := h.els i hi; ⟨⟨b, o, e, ha.below hb⟩, hi'.below hb⟩, h.fit, h.key⟩
theorem Lst.ok {w : World} {la : Option Addr} {ll lc : Nat} {L : Nat → V} (h : Lst w la ll lc L) : ∀ x ∈ listA la L ll, x.Ok w := by
  intro x hx
  obtain ⟨i, hi, hx⟩ := List.mem_flatMap.1 hx
  rw [List.mem_range] at hi
  obtain ⟨⟨b', o', rfl, ha'⟩, hin⟩ := h.els i hi
  exact flat_ok (L i) b' (o' + i * 8) hin (h.fit.2 i hi) (h.key i hi) ha' x hx

theorem kids_any (la : Option Addr) (ll lc : Nat) (L : Nat → V) (w : World) (h : Lst w la ll lc L) (ht : Tabs w) :
    Calls Tryd.prog 8 #[.slice la ll lc] w fun e w' => ∃ u cs, e = .returned u ∧ KidsPost w (listV L ll) u cs w' := by
  have := kids_in 3 (by omega) la ll lc L w
    ⟨by decide, by decide, by decide, by decide, by decide, h.cap, ⟨Nat.le_refl _, by decide⟩, h.els, fun i hi => absurd hi (Nat.not_lt_zero _)⟩
    ⟨h.fit.1, by decide, h.fit.2, fun i hi => absurd hi (Nat.not_lt_zero _)⟩ h.ok ht
  rw [list_vs] at this
  exact callsIn_wide.1 this

set_option maxHeartbeats 1000000 in
theorem alike_any (c d : C) (w : World) (hc : c.val.In w) (hd : d.val.In w) :
    Calls Tryd.prog 12 #[c.agg, d.agg] w fun x w' => x = .returned (.bool (c.alike d)) ∧ Below w.heap.size w w' := by
  obtain ⟨key, k, s, v⟩ := c
  obtain ⟨key', k', s', u⟩ := d
  cases v with
  | leaf => exact hc.elim
  | mk vk vn vs la ll lc L fa fl fc fn F e vkey hk =>
  cases u with
  | leaf => exact hd.elim
  | mk vk' vn' vs' la' ll' lc' L' fa' fl' fc' fn' F' e' vkey' hk' =>
  clear hc hd
  have hlow : Hid (∀ (O O' : Obj) (m : Nat), Below w.heap.size w (((w.alloc O).alloc O').drewN m)) := fun O O' m => below_drewN (((Below.refl _ _).alloc (Nat.le_refl _) _).alloc (by simp) _) m
  simp only [C.agg, C.cells, V.cells]
  by_cases e0 : k = k'
  · subst e0
    by_cases e1 : s = s'
    · subst e1
      have H := Lib.hid (show Ending.returned (.bool true) = .returned (.bool (C.alike ⟨key, k, s, (V.mk vk vn vs la ll lc L fa fl fc fn F e vkey hk)⟩ ⟨key', k, s, (V.mk vk' vn' vs' la' ll' lc' L' fa' fl' fc' fn' F' e' vkey' hk')⟩)) by simp [C.alike])
      go_enter Tryd.func12, Tryd.ntmps12
      go_wp2_with fail
      go_ret
      exact ⟨H.out, hlow.out _ _ 0⟩
    · have q4 : (s.toList == s'.toList) = false := bytes_ne e1
      have H := Lib.hid (show Ending.returned (.bool false) = .returned (.bool (C.alike ⟨key, k, s, (V.mk vk vn vs la ll lc L fa fl fc fn F e vkey hk)⟩ ⟨key', k, s', (V.mk vk' vn' vs' la' ll' lc' L' fa' fl' fc' fn' F' e' vkey' hk')⟩)) by simp [C.alike, e1])
      clear e1
      go_enter Tryd.func12, Tryd.ntmps12
      go_wp2_with fail
      go_ret
      exact ⟨H.out, hlow.out _ _ 0⟩
  · have q3 : (k == k') = false := by simp [e0]
    have H := Lib.hid (show Ending.returned (.bool false) = .returned (.bool (C.alike ⟨key, k, s, (V.mk vk vn vs la ll lc L fa fl fc fn F e vkey hk)⟩ ⟨key', k', s', (V.mk vk' vn' vs' la' ll' lc' L' fa' fl' fc' fn' F' e' vkey' hk')⟩)) by simp [C.alike, e0])
    clear e0
    go_enter Tryd.func12, Tryd.ntmps12
    go_wp2_with fail
    go_ret
    exact ⟨H.out, hlow.out _ _ 0⟩

/-- A host without anything within it. -/
def hostV (tag key : ByteArray) : V := .mk 6 0 tag none 0 0 (fun _ => .leaf) none 0 0 (fun _ => ⟨#[]⟩) (fun _ => .leaf) 1 key true
set_option maxHeartbeats 1000000 in
theorem host_any (tag key : ByteArray) (w : World) (hk : key.toList.isEmpty = false) : Calls Tryd.prog 13 #[.string tag, .string key] w fun e w' => e = .returned (hostV tag key).agg ∧ Below w.heap.size w w' := by
  have hlow : Hid (∀ (O : Obj), Below w.heap.size w (w.alloc O)) := fun O => below_alloc w O
  simp only [V.agg, hostV, V.cells]
  go_enter Tryd.func13, Tryd.ntmps13
  go_wp2_with fail
  refine bodyPost_ret (v := .agg #[.int .u8 6, .int .i64 0, .string tag, .slice none 0 0, .slice none 0 0, .int .u8 1, .string key, .bool true]) (by simp [results, Tryd.results13, go_sem, hk]) rfl ?_
  exact ⟨rfl, hlow.out _⟩
end Go.Proofs.YtpmkkgndpfbkdaaDoor
