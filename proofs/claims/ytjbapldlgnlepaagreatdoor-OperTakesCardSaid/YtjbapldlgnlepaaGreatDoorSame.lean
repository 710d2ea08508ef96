/-
  Walks: value.sameOwn over two values in memory.
  Conditions: the values' cells are there.
-/
import Derived.Test.YtjbapldlgnlepaaGreatDoorSameP
import Derived.Test.YtjbapldlgnlepaaGreatDoorSize
namespace Go.Proofs.YtjbapldlgnlepaaGreatDoor
open Go.RowKit

set_option maxHeartbeats 1000000 in
theorem sameOwn_any (w : World) (b o b' o' : Nat) (k n : Int) (s : ByteArray) (la : Option Addr) (ll lc : Nat) (L : Nat → V) (fa : Option Addr) (fl fc : Nat) (fn : Nat → ByteArray) (F : Nat → V) (e : Int) (key : ByteArray) (hk : Bool)
    (k' n' : Int) (s' : ByteArray) (la' : Option Addr) (ll' lc' : Nat) (L' : Nat → V) (fa' : Option Addr) (fl' fc' : Nat) (fn' : Nat → ByteArray) (F' : Nat → V) (e' : Int) (key' : ByteArray) (hk' : Bool)
    (h : At w b o (V.mk k n s la ll lc L fa fl fc fn F e key hk).cells) (h' : At w b' o' (V.mk k' n' s' la' ll' lc' L' fa' fl' fc' fn' F' e' key' hk').cells) :
    Calls Tryz.prog 160 #[.pointer (some ⟨b, o, none⟩), .pointer (some ⟨b', o', none⟩)] w fun x w' => x = .returned (.bool (ownB k n s e key hk k' n' s' e' key' hk')) ∧ ∃ m, w' = w.drewN m := by
  obtain ⟨c0, c1, c2, c3, c4, c5, c6, c7⟩ := at8 h
  obtain ⟨d0, d1, d2, d3, d4, d5, d6, d7⟩ := at8 h'
  clear h h' c3 c4 d3 d4
  by_cases e0 : k = k'
  · subst e0
    by_cases e1 : n = n'
    · subst e1
      by_cases e2 : s = s'
      · subst e2
        by_cases e3 : e = e'
        · subst e3
          by_cases e4 : key = key'
          · subst e4
            by_cases e5 : hk = hk'
            · subst e5
              have H := Lib.hid (show Ending.returned (.bool true) = .returned (.bool (ownB k n s e key hk k n s e key hk)) by simp [ownB])
              go_enter Tryz.func160, Tryz.ntmps160
              go_wp2_with fail
              simp only [List.append_eq, List.cons_append, List.nil_append]
              go_quiet (fail)
              go_wp2
              go_ret
              exact ⟨H.out, _, rfl⟩
            · have q5 : (hk == hk') = false := by simp [e5]
              have H := Lib.hid (show Ending.returned (.bool false) = .returned (.bool (ownB k n s e key hk k n s e key hk')) by simp [ownB, e5])
              clear e5
              go_enter Tryz.func160, Tryz.ntmps160
              go_wp2_with fail
              simp only [List.append_eq, List.cons_append, List.nil_append]
              go_quiet (fail)
              go_wp2
              go_ret
              exact ⟨H.out, _, rfl⟩
          · have q4 : (key.toList == key'.toList) = false := bytes_ne e4
            have H := Lib.hid (show Ending.returned (.bool false) = .returned (.bool (ownB k n s e key hk k n s e key' hk')) by simp [ownB, e4])
            clear e4
            go_enter Tryz.func160, Tryz.ntmps160
            go_wp2_with fail
            simp only [List.append_eq, List.cons_append, List.nil_append]
            go_quiet (fail)
            go_wp2
            go_ret
            exact ⟨H.out, _, rfl⟩
        · have q3 : (e == e') = false := by simp [e3]
          have H := Lib.hid (show Ending.returned (.bool false) = .returned (.bool (ownB k n s e key hk k n s e' key' hk')) by simp [ownB, e3])
          clear e3
          go_enter Tryz.func160, Tryz.ntmps160
          go_wp2_with fail
          simp only [List.append_eq, List.cons_append, List.nil_append]
          go_quiet (fail)
          go_wp2
          go_ret
          exact ⟨H.out, _, rfl⟩
      · have q2 : (s.toList == s'.toList) = false := bytes_ne e2
        have H := Lib.hid (show Ending.returned (.bool false) = .returned (.bool (ownB k n s e key hk k n s' e' key' hk')) by simp [ownB, e2])
        clear e2
        go_enter Tryz.func160, Tryz.ntmps160
        go_wp2_with fail
        simp only [List.append_eq, List.cons_append, List.nil_append]
        go_quiet (fail)
        go_wp2
        go_ret
        exact ⟨H.out, _, rfl⟩
    · have q1 : (n == n') = false := by simp [e1]
      have H := Lib.hid (show Ending.returned (.bool false) = .returned (.bool (ownB k n s e key hk k n' s' e' key' hk')) by simp [ownB, e1])
      clear e1
      go_enter Tryz.func160, Tryz.ntmps160
      go_wp2_with fail
      simp only [List.append_eq, List.cons_append, List.nil_append]
      go_quiet (fail)
      go_wp2
      go_ret
      exact ⟨H.out, _, rfl⟩
  · have q0 : (k == k') = false := by simp [e0]
    have H := Lib.hid (show Ending.returned (.bool false) = .returned (.bool (ownB k n s e key hk k' n' s' e' key' hk')) by simp [ownB, e0])
    clear e0
    go_enter Tryz.func160, Tryz.ntmps160
    go_wp2_with fail
    simp only [List.append_eq, List.cons_append, List.nil_append]
    go_quiet (fail)
    go_wp2
    go_ret
    exact ⟨H.out, _, rfl⟩
end Go.Proofs.YtjbapldlgnlepaaGreatDoor
