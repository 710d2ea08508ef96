/-
  Walks: the document's answer to Match (tapestryref08) is 'matM' too.
  Conditions: both lists lie in memory.
-/
import Derived.Test.YtpmkkgndpfbkdaaGreatDoorMaT
import Derived.Test.YtpmkkgndpfbkdaaGreatDoorMaN
import Derived.Deep.Cut
namespace Go.Proofs.YtpmkkgndpfbkdaaGreatDoor
set_option linter.unusedVariables false
set_option linter.unusedSimpArgs false
open Go.RowKit Go.Deep Go.WideShapes

set_option maxHeartbeats 1000000 in
theorem ralike_all (c d : C) (w : World) (hc : c.val.In w) (hd : d.val.In w) :
    Calls Tryz.prog 18 #[c.agg, d.agg] w fun x w' => x = .returned (.bool (c.alike d)) ∧ Below w.heap.size w w' := by
  obtain ⟨key, k, s, v⟩ := c
  obtain ⟨key', k', s', u⟩ := d
  cases v with
  | leaf => exact hc.elim
  | mk vk vn vs la ll lc L fa fl fc fn F e vkey hk =>
  cases u with
  | leaf => exact hd.elim
  | mk vk' vn' vs' la' ll' lc' L' fa' fl' fc' fn' F' e' vkey' hk' =>
  clear hc hd
  have hlow : Hid (∀ (O O' : Obj) (m : Nat), Below w.heap.size w (((w.alloc O).alloc O').drewN m)) := fun O O' m => below_drewM (((Below.refl _ _).alloc (Nat.le_refl _) _).alloc (by simp) _)
  simp only [C.agg, C.cells, V.cells]
  by_cases e0 : k = k'
  · subst e0
    by_cases e1 : s = s'
    · subst e1
      have H := Lib.hid (show Ending.returned (.bool true) = .returned (.bool (C.alike ⟨key, k, s, (V.mk vk vn vs la ll lc L fa fl fc fn F e vkey hk)⟩ ⟨key', k, s, (V.mk vk' vn' vs' la' ll' lc' L' fa' fl' fc' fn' F' e' vkey' hk')⟩)) by simp [C.alike])
      go_enter Tryz.func18, Tryz.ntmps18
      go_wp2_with fail
      go_ret
      exact ⟨H.out, hlow.out _ _ 0⟩
    · have q4 : (s.toList == s'.toList) = false := bytes_ne e1
      have H := Lib.hid (show Ending.returned (.bool false) = .returned (.bool (C.alike ⟨key, k, s, (V.mk vk vn vs la ll lc L fa fl fc fn F e vkey hk)⟩ ⟨key', k, s', (V.mk vk' vn' vs' la' ll' lc' L' fa' fl' fc' fn' F' e' vkey' hk')⟩)) by simp [C.alike, e1])
      clear e1
      go_enter Tryz.func18, Tryz.ntmps18
      go_wp2_with fail
      go_ret
      exact ⟨H.out, hlow.out _ _ 0⟩
  · have q3 : (k == k') = false := by simp [e0]
    have H := Lib.hid (show Ending.returned (.bool false) = .returned (.bool (C.alike ⟨key, k, s, (V.mk vk vn vs la ll lc L fa fl fc fn F e vkey hk)⟩ ⟨key', k', s', (V.mk vk' vn' vs' la' ll' lc' L' fa' fl' fc' fn' F' e' vkey' hk')⟩)) by simp [C.alike, e0])
    clear e0
    go_enter Tryz.func18, Tryz.ntmps18
    go_wp2_with fail
    go_ret
    exact ⟨H.out, hlow.out _ _ 0⟩


/-- What is held is just what has not gone on. -/
theorem heldM_is {K N : Nat → C} {n : Nat} (x : List UInt8) : ∀ j, heldM K N n j x = match firstsM K n x with | none => none | some p => if seenM (matM K N n) j p = true then none else some p
  | 0 => by
    rw [heldM]
    cases firstsM K n x with
    | none => rfl
    | some p => simp [seenM_zero]
  | j + 1 => by
    have ih := heldM_is (K := K) (N := N) (n := n) x j
    rw [heldM]
    rcases takeM_cases K (heldM K N n j) (N j) with ⟨e, -⟩ | ⟨p, hf, ha, e⟩
    · have hm : matM K N n j = -1 := by rw [matM, e]
      rw [e]
      simp only
      rw [ih]
      cases firstsM K n x with
      | none => rfl
      | some q => simp only [seenM_no hm]
    · have hm : matM K N n j = (p : Int) := by rw [matM, e]
      have h0 := firstsM_some (heldM_sub hf)
      rw [e]
      simp only
      by_cases hx : x = (N j).kl
      · subst hx
        rw [if_pos rfl, heldM_sub hf]
        simp [seenM_yes hm]
      · rw [if_neg hx, ih]
        cases hq : firstsM K n x with
        | none => rfl
        | some q =>
          have h1 := firstsM_some hq
          have hne : q ≠ p := fun e' => hx (by rw [← h1.2.1, ← h0.2.1, e'])
          simp only [seenM_yes hm, if_neg hne]
theorem ref_none {K N : Nat → C} {n j : Nat} (h : firstsM K n (N j).kl = none) : matM K N n j = -1 := by
  have := heldM_is (K := K) (N := N) (n := n) (N j).kl j
  rw [h] at this
  unfold matM takeM
  rw [this]
theorem ref_seen {K N : Nat → C} {n j p : Nat} (h : firstsM K n (N j).kl = some p) (hs : seenM (matM K N n) j p = true) : matM K N n j = -1 := by
  have := heldM_is (K := K) (N := N) (n := n) (N j).kl j
  rw [h] at this
  simp only [hs, if_true] at this
  unfold matM takeM
  rw [this]
theorem ref_some {K N : Nat → C} {n j p : Nat} (h : firstsM K n (N j).kl = some p) (hs : seenM (matM K N n) j p = false) : matM K N n j = if (K p).alike (N j) = true then (p : Int) else -1 := by
  have := heldM_is (K := K) (N := N) (n := n) (N j).kl j
  rw [h] at this
  simp only [hs] at this
  unfold matM takeM
  rw [this]
  simp only [Bool.false_eq_true, if_false]
  split <;> rfl

/-- The place of a key's first holder; -1: none. -/
def optI (o : Option Nat) : Int := match o with | none => -1 | some p => p
theorem firstsM_first {K : Nat → C} {n p : Nat} {x : List UInt8} (hp : p < n) (h1 : (K p).kl = x) (h2 : ∀ q, q < p → (K q).kl ≠ x) : firstsM K n x = some p := by
  cases e : firstsM K n x with
  | none => exact absurd h1 (firstsM_none e p hp)
  | some q =>
    obtain ⟨g1, g2, g3⟩ := firstsM_some e
    rcases Nat.lt_trichotomy p q with h | h | h
    · exact absurd h1 (g3 p h)
    · rw [h]
    · exact absurd g2 (h2 q h)
theorem firstsM_no {K : Nat → C} {x : List UInt8} : ∀ {n : Nat}, (∀ q, q < n → (K q).kl ≠ x) → firstsM K n x = none
  | 0, _ => rfl
  | n + 1, h => by
    rw [firstsM, firstsM_no (fun q hq => h q (Nat.lt_succ_of_lt hq))]
    simp only
    rw [if_neg (h n (Nat.lt_succ_self _))]
theorem kl_ne {c : C} {s : ByteArray} (h : ¬ c.key = s) : c.kl ≠ s.data.toList := fun e => by
  have e : c.key.data.toList = s.data.toList := e
  have := Array.toList_inj.1 e
  refine h ?_
  cases h1 : c.key
  cases h2 : s
  rw [h1, h2] at this
  simp only at this
  rw [this]

set_option maxRecDepth 100000 in
set_option maxHeartbeats 2000000 in
theorem holder_any (la : Option Addr) (ll lc : Nat) (K : Nat → C) (s : ByteArray) (w : World) (h : CLst w la ll lc K) :
    Calls Tryz.prog 17 #[.slice la ll lc, .string s] w fun x w' => x = .returned (.int .i64 (optI (firstsM K ll s.data.toList))) ∧ w = w' := by
  have hll := h.cap
  unfold maxLen at hll
  have HK := Lib.hid h.els
  have R1 : Hid (∀ p, p < ll → (K p).key = s → (∀ q, q < p → (K q).kl ≠ s.data.toList) → Ending.returned (.int .i64 (p : Int)) = .returned (.int .i64 (optI (firstsM K ll s.data.toList)))) := Lib.hid (fun p hp h1 h2 => by rw [firstsM_first hp (by unfold C.kl; rw [h1]) h2]; rfl)
  have R0 : Hid ((∀ q, q < ll → (K q).kl ≠ s.data.toList) → Ending.returned (.int .i64 (-1)) = .returned (.int .i64 (optI (firstsM K ll s.data.toList)))) := Lib.hid (fun h2 => by rw [firstsM_no h2]; rfl)
  clear h
  generalize optI (firstsM K ll s.data.toList) = y at R1 R0 ⊢
  go_enter Tryz.func17, Tryz.ntmps17
  go_wp2_with fail
  go_loopw [5] (fun i wr => ∃ j : Nat, j ≤ ll ∧ i = .int .i64 j ∧ (∀ q, q < j → (K q).kl ≠ s.data.toList) ∧ w = wr) (fun i _ => ll - (intOf i).toNat)
  case atStart => exact ⟨0, Nat.zero_le _, rfl, fun q hq => absurd hq (Nat.not_lt_zero _), rfl⟩
  case round =>
    obtain ⟨j, hj, rfl, hne, rfl⟩ := hrel
    have HNE := Lib.hid hne
    clear hne
    by_cases hlt : j < ll
    · have hj0 : (0 : Int) ≤ (j : Int) := by omega
      have hj1 : (j : Int) < (ll : Int) := by omega
      obtain ⟨⟨b, o, rfl, hat⟩, -⟩ := HK.out j hlt
      have e0 : w.cell? ⟨b, o + j * 11, none⟩ = some (.string (K j).key) := hat 0 (by simp [C.cells])
      clear hat
      by_cases e : (K j).key = s
      · have HR := Lib.hid (R1.out j hlt e HNE.out)
        rw [e] at e0
        clear e
        go_wp2_with fail
        go_ret
        exact ⟨HR.out, rfl⟩
      · have hbn : ((K j).key.toList == s.toList) = false := bytes_ne e
        have HN : Hid (∀ q, q < j + 1 → (K q).kl ≠ s.data.toList) := Lib.hid (fun q hq => by
          rcases Nat.lt_succ_iff_lt_or_eq.1 hq with h | rfl
          · exact HNE.out q h
          · exact kl_ne e)
        clear e
        generalize (K j).key = k at e0 hbn
        go_wp2_with fail
        go_roundw
        case rel => exact ⟨j + 1, by omega, by go_num, HN.out, trivial⟩
        case measure => simp [intOf]; omega
    · obtain rfl : j = ll := by omega
      have HR := Lib.hid (R0.out HNE.out)
      go_wp2_with fail
      go_ret
      exact ⟨HR.out, rfl⟩

theorem own_below {w w' : World} {base e n : Nat} {v : Value} {xs : List Value} (ho : w.ownsRow base e 1 v n xs) (hb : Below w.heap.size w w') : w'.ownsRow base e 1 v n xs := World.ownsRow.kept ho (grownBy_of_below hb (some w.heap.size)) (.inr (fun e => absurd (ho.lt _ e).2 (Nat.lt_irrefl _)))
theorem rowI_snoc (n : Nat) (h : Nat → Int) : rowI (n + 1) h = rowI n h ++ [.int .i64 (h n)] := by
  unfold rowI
  rw [List.range_succ, List.map_append]
  rfl
theorem il_row {w : World} {base n : Nat} {v : Value} {h : Nat → Int} (ho : w.ownsRow base 3 1 v n (rowI n h)) : ∃ a cap, v = .slice a n cap ∧ n ≤ cap ∧ cap ≤ maxLen ∧ IL w a n h := by
  have hh := ho
  rcases ho.2 with ⟨rfl, h0⟩ | ⟨g, cap, cur, rfl, _, _, h1, h2, _⟩
  · exact ⟨none, 0, by rw [h0], by omega, Nat.zero_le _, fun j hj => absurd hj (by omega)⟩
  · refine ⟨some ⟨g, 0, none⟩, cap, rfl, h1, h2, fun j hj => ⟨g, 0, rfl, ?_⟩⟩
    have := World.ownsRow.cells hh (g := g) rfl j _ (rowI_get hj)
    rw [add_plain] at this
    exact this

set_option maxRecDepth 100000 in
set_option maxHeartbeats 4000000 in
theorem rmatch_any (la : Option Addr) (ll lc : Nat) (K : Nat → C) (na : Option Addr) (nl nc : Nat) (N : Nat → C) (w : World) (hK : CLst w la ll lc K) (hN : CLst w na nl nc N) (hlb : ll ≤ 281474976710656) (hnb : nl * 8 ≤ 140737488351232) :
    Calls Tryz.prog 8 #[.slice la ll lc, .slice na nl nc] w fun x w' => ∃ a cap, x = .returned (.slice a nl cap) ∧ nl ≤ cap ∧ cap ≤ maxLen ∧ IL w' a nl (matM K N ll) ∧ Below w.heap.size w w' := by
  have hll := hK.cap
  have hnl := hN.cap
  unfold maxLen at hll hnl
  have HH := Lib.hid (fun s W (hb : Below w.heap.size w W) => holder_any la ll lc K s W (hK.below hb))
  have HK := Lib.hid (fun W (hb : Below w.heap.size w W) => (hK.below hb).els)
  have HN := Lib.hid (fun W (hb : Below w.heap.size w W) => (hN.below hb).els)
  obtain ⟨w4, hmk, hown, hb4⟩ := make_bools w ll hlb w.heap.size (Nat.le_refl _)
  have hgs := hown.lt
  have HS4 := Lib.hid hown
  have HB4 := Lib.hid hb4
  obtain ⟨i0, hi, hz0, hz1, hz2⟩ := info_parts info_int
  clear hK hN hlb hown hb4
  go_enter Tryz.func8, Tryz.ntmps8
  go_wp2_with fail
  clear hmk
  obtain ⟨gs, hgsE⟩ : ∃ g, w.heap.size = g := ⟨_, rfl⟩
  have hgsl : gs < w4.heap.size := by omega
  have HS5 : Hid (OwnV w4 w.heap.size gs ll 4 (fun _ => .bool false)) := Lib.hid (by rw [← hgsE]; exact HS4.out)
  have HGE := Lib.hid hgsE
  clear HS4 hgs
  rw [hgsE]
  clear hgsE
  go_loopw [6, 7] (fun o i wr => ∃ j : Nat, j ≤ nl ∧ i = .int .i64 j ∧ wr.ownsRow w4.heap.size 3 1 o j (rowI j (matM K N ll)) ∧ OwnV wr w.heap.size gs ll 4 (fun p => .bool (seenM (matM K N ll) j p)) ∧ Below w.heap.size w wr ∧ w4.heap.size ≤ wr.heap.size) (fun _ i _ => nl - (intOf i).toNat)
  case atStart => exact ⟨0, Nat.zero_le _, rfl, World.ownsRow_nil _ _ _ _, by have := HS5.out; simpa only [seenM_zero] using this, HB4.out, Nat.le_refl _⟩
  case round =>
    obtain ⟨j, hj, rfl, ho, hs, hb, hz⟩ := hrel
    have HO := Lib.hid ho
    have HS := Lib.hid hs
    have HB := Lib.hid hb
    have HZ := Lib.hid hz
    clear ho hs hb hz HS5
    by_cases hlt : j < nl
    · have hj0 : (0 : Int) ≤ (j : Int) := by omega
      have hj1 : (j : Int) < (nl : Int) := by omega
      obtain ⟨⟨b2, o2, rfl, hat⟩, hin⟩ := HN.out _ HB.out j hlt
      have e0 : wr.cell? ⟨b2, o2 + j * 11, none⟩ = some (.string (N j).key) := hat 0 (by simp [C.cells])
      have HHj := Lib.hid (HH.out (N j).key wr HB.out)
      cases hf : firstsM K ll (N j).kl with
      | none =>
        have HMJ : Hid (matM K N ll j = -1) := Lib.hid (ref_none hf)
        rw [show firstsM K ll (N j).key.data.toList = none from hf] at HHj
        simp only [optI] at HHj
        generalize (N j).key = sk at e0 HHj
        go_wp2_with (go_at_call 17; (with_reducible refine (HHj.out).mono ?_); rintro x w1 ⟨rfl, rfl⟩)
        go_quiet (fail)
        have hdx : Below wr.heap.size wr (wr.drewN nq) := ⟨rfl, rfl, rfl, Nat.le_refl _, fun _ _ => rfl⟩
        have HOX := Lib.hid (own_below HO.out hdx)
        have HSX : Hid (OwnV (wr.drewN nq) w.heap.size gs ll 4 (fun p => .bool (seenM (matM K N ll) (j + 1) p))) := Lib.hid ((show OwnV wr w.heap.size gs ll 4 (fun p => .bool (seenM (matM K N ll) (j + 1) p)) from by simpa only [seenM_no HMJ.out] using HS.out).below hdx)
        have HBX := Lib.hid (HB.out.trans (hdx.mono HB.out.size))
        have HZX : Hid (w4.heap.size ≤ (wr.drewN nq).heap.size) := Lib.hid (Nat.le_trans HZ.out hdx.size)
        clear hdx
        go_wp2_with (at_builtin; refine wpList_append_own _ rfl _ _ 26 rfl w4.heap.size 3 i0 (.int .i64 0) 1 8 Tryz.underlying26 hi hz0 hz1 hz2 rfl (by decide) _ _ _ rfl (HOX.out.alloc _) ⟨_, 0, none⟩ 1 1 [.int .i64 (-1)] rfl rfl ?c1 ?c2 ?c3 ?c4 ?c5 ?_)
        case c1 => first | exact cell_one_new _ _ _ | (have hc1 := cell_one_new (wx.setCell ⟨gs, p, none⟩ (.bool true)) (.int .i64 (p : Int)) 3; rw [show (wx.setCell ⟨gs, p, none⟩ (.bool true)).heap.size = wx.heap.size from by simp [World.setCell]] at hc1; exact hc1)
        case c2 => simp [Value.oneCell']
        case c3 => unfold maxLen; omega
        case c4 => omega
        case c5 => exact Nat.le_trans HZX.out (below_alloc _ _).size
        intro v' w8 hown' hgrow _
        have hsz8 := hgrow.size
        have HO8 : Hid (w8.ownsRow w4.heap.size 3 1 v' (j + 1) (rowI (j + 1) (matM K N ll))) := Lib.hid (by rw [rowI_snoc, HMJ.out]; exact hown')
        have HS8 : Hid (OwnV w8 w.heap.size gs ll 4 (fun p => .bool (seenM (matM K N ll) (j + 1) p))) := Lib.hid ((HSX.out.below (below_alloc _ _)).kept hgrow (fun e => by have := (HOX.out.lt gs e.symm).1; omega))
        have HB8 : Hid (Below w.heap.size w w8) := Lib.hid ((HBX.out.alloc HBX.out.size _).grown hgrow (Nat.le_trans HBX.out.size (below_alloc _ _).size) (fun g e => by have := (HOX.out.lt g e).1; have := HB4.out.size; omega))
        have HZ8 : Hid (w4.heap.size ≤ w8.heap.size) := Lib.hid (Nat.le_trans HZX.out (Nat.le_trans (below_alloc _ _).size hsz8))
        clear hown' hgrow hsz8
        go_wp2_with fail
        go_roundw
        case rel => exact ⟨j + 1, by omega, by go_num, HO8.out, HS8.out, HB8.out, HZ8.out⟩
        case measure => simp [intOf]; omega
      | some p =>
        have hpl := firstsM_lt _ _ hf
        have hp0 : (0 : Int) ≤ (p : Int) := by omega
        have hp1 : (p : Int) < (ll : Int) := by omega
        have hp3 : decide ((ll : Int) ≤ (p : Int)) = false := decide_eq_false (by omega)
        have hp4 : decide (ll ≤ p) = false := decide_eq_false (by omega)
        rw [show firstsM K ll (N j).key.data.toList = some p from hf] at HHj
        simp only [optI] at HHj
        have hs0 := HS.out.cell hpl
        cases hsn : seenM (matM K N ll) j p with
        | true =>
          have HMJ : Hid (matM K N ll j = -1) := Lib.hid (ref_seen hf hsn)
          rw [hsn] at hs0
          generalize (N j).key = sk at e0 HHj
          clear hf hsn
          go_wp2_with (go_at_call 17; (with_reducible refine (HHj.out).mono ?_); rintro x w1 ⟨rfl, rfl⟩)
          go_quiet (fail)
          have hdx : Below wr.heap.size wr (wr.drewN nq) := ⟨rfl, rfl, rfl, Nat.le_refl _, fun _ _ => rfl⟩
          have HOX := Lib.hid (own_below HO.out hdx)
          have HSX : Hid (OwnV (wr.drewN nq) w.heap.size gs ll 4 (fun p => .bool (seenM (matM K N ll) (j + 1) p))) := Lib.hid ((show OwnV wr w.heap.size gs ll 4 (fun p => .bool (seenM (matM K N ll) (j + 1) p)) from by simpa only [seenM_no HMJ.out] using HS.out).below hdx)
          have HBX := Lib.hid (HB.out.trans (hdx.mono HB.out.size))
          have HZX : Hid (w4.heap.size ≤ (wr.drewN nq).heap.size) := Lib.hid (Nat.le_trans HZ.out hdx.size)
          clear hdx
          go_wp2_with (at_builtin; refine wpList_append_own _ rfl _ _ 26 rfl w4.heap.size 3 i0 (.int .i64 0) 1 8 Tryz.underlying26 hi hz0 hz1 hz2 rfl (by decide) _ _ _ rfl (HOX.out.alloc _) ⟨_, 0, none⟩ 1 1 [.int .i64 (-1)] rfl rfl ?c1 ?c2 ?c3 ?c4 ?c5 ?_)
          case c1 => first | exact cell_one_new _ _ _ | (have hc1 := cell_one_new (wx.setCell ⟨gs, p, none⟩ (.bool true)) (.int .i64 (p : Int)) 3; rw [show (wx.setCell ⟨gs, p, none⟩ (.bool true)).heap.size = wx.heap.size from by simp [World.setCell]] at hc1; exact hc1)
          case c2 => simp [Value.oneCell']
          case c3 => unfold maxLen; omega
          case c4 => omega
          case c5 => exact Nat.le_trans HZX.out (below_alloc _ _).size
          intro v' w8 hown' hgrow _
          have hsz8 := hgrow.size
          have HO8 : Hid (w8.ownsRow w4.heap.size 3 1 v' (j + 1) (rowI (j + 1) (matM K N ll))) := Lib.hid (by rw [rowI_snoc, HMJ.out]; exact hown')
          have HS8 : Hid (OwnV w8 w.heap.size gs ll 4 (fun p => .bool (seenM (matM K N ll) (j + 1) p))) := Lib.hid ((HSX.out.below (below_alloc _ _)).kept hgrow (fun e => by have := (HOX.out.lt gs e.symm).1; omega))
          have HB8 : Hid (Below w.heap.size w w8) := Lib.hid ((HBX.out.alloc HBX.out.size _).grown hgrow (Nat.le_trans HBX.out.size (below_alloc _ _).size) (fun g e => by have := (HOX.out.lt g e).1; have := HB4.out.size; omega))
          have HZ8 : Hid (w4.heap.size ≤ w8.heap.size) := Lib.hid (Nat.le_trans HZX.out (Nat.le_trans (below_alloc _ _).size hsz8))
          clear hown' hgrow hsz8
          go_wp2_with fail
          go_roundw
          case rel => exact ⟨j + 1, by omega, by go_num, HO8.out, HS8.out, HB8.out, HZ8.out⟩
          case measure => simp [intOf]; omega
        | false =>
          rw [hsn] at hs0
          clear e0
          cases hal : (K p).alike (N j) with
          | true =>
            have HMJ : Hid (matM K N ll j = (p : Int)) := Lib.hid (by rw [ref_some hf hsn, hal]; simp)
            obtain ⟨⟨b1, o1, rfl, hat1⟩, hin1⟩ := HK.out _ HB.out p hpl
            have HE : Hid (∀ W, Below wr.heap.size wr W → Calls Tryz.prog 18 #[(K p).agg, (N j).agg] W fun x w' => x = .returned (.bool true) ∧ Below W.heap.size W w') := Lib.hid (fun W hb => hal ▸ ralike_all (K p) (N j) W (hin1.2.2.2.below hb) (hin.2.2.2.below hb))
            have HFZ := Lib.hid (fun W (hb : Below wr.heap.size wr W) => (HS.out.below hb).frozen p)
            have HNX : Hid (∀ W, Below wr.heap.size wr W → OwnV (W.setCell ⟨gs, p, none⟩ (.bool true)) w.heap.size gs ll 4 (fun p => .bool (seenM (matM K N ll) (j + 1) p)) ∧ W.grownBy (W.setCell ⟨gs, p, none⟩ (.bool true)) (some gs)) := Lib.hid (fun W hb => (HS.out.below hb).set p (.bool true) (fun i _ => by rw [seenM_yes HMJ.out]; split <;> rfl))
            have hbs : ∀ W, Below wr.heap.size wr W → W.cell? ⟨gs, p, none⟩ = some (.bool false) := fun W hb => by rw [hb.cell (p := ⟨gs, p, none⟩) (World.block_lt_of_cell? _ _ hs0)]; exact hs0
            have HBS := Lib.hid hbs
            clear hal hbs hs0
            obtain ⟨c1, hc1⟩ : ∃ c, K p = c := ⟨_, rfl⟩
            obtain ⟨c2, hc2⟩ : ∃ c, N j = c := ⟨_, rfl⟩
            rw [hc1] at hat1 hin1 HE
            rw [hc2] at hat hin HE HHj
            have HC := Lib.hid (And.intro hc1 hc2)
            clear hc1 hc2
            have hv1 : c1.val.In wr := hin1.2.2.2
            have hv2 : c2.val.In wr := hin.2.2.2
            obtain ⟨ck1, ce1, cn1, v1⟩ := c1
            cases v1 with
            | leaf => exact (hv1).elim
            | mk k1 n1 s1 la1 ll1 lc1 L1 fa1 fl1 fc1 fn1 F1 e1 key1 hk1 =>
              obtain ⟨ck2, ce2, cn2, v2⟩ := c2
              cases v2 with
              | leaf => exact (hv2).elim
              | mk k2 n2 s2 la2 ll2 lc2 L2 fa2 fl2 fc2 fn2 F2 e2 key2 hk2 =>
                have KS : Hid (∀ W, Below wr.heap.size wr W → (fun W => Below wr.heap.size wr W ∧ W.cell? ⟨gs, p, none⟩ = some (.bool false) ∧ W.cell? ⟨b1, o1 + p * 11, none⟩ = some (.string ck1) ∧ W.cell? ⟨b1, o1 + p * 11 + 1, none⟩ = some (.int .u8 ce1) ∧ W.cell? ⟨b1, o1 + p * 11 + 2, none⟩ = some (.string cn1) ∧ W.cell? ⟨b1, o1 + p * 11 + 3, none⟩ = some (.int .u8 k1) ∧ W.cell? ⟨b1, o1 + p * 11 + 4, none⟩ = some (.int .i64 n1) ∧ W.cell? ⟨b1, o1 + p * 11 + 5, none⟩ = some (.string s1) ∧ W.cell? ⟨b1, o1 + p * 11 + 6, none⟩ = some (.slice la1 ll1 lc1) ∧ W.cell? ⟨b1, o1 + p * 11 + 7, none⟩ = some (.slice fa1 fl1 fc1) ∧ W.cell? ⟨b1, o1 + p * 11 + 8, none⟩ = some (.int .u8 e1) ∧ W.cell? ⟨b1, o1 + p * 11 + 9, none⟩ = some (.string key1) ∧ W.cell? ⟨b1, o1 + p * 11 + 10, none⟩ = some (.bool hk1) ∧ W.cell? ⟨b2, o2 + j * 11, none⟩ = some (.string ck2) ∧ W.cell? ⟨b2, o2 + j * 11 + 1, none⟩ = some (.int .u8 ce2) ∧ W.cell? ⟨b2, o2 + j * 11 + 2, none⟩ = some (.string cn2) ∧ W.cell? ⟨b2, o2 + j * 11 + 3, none⟩ = some (.int .u8 k2) ∧ W.cell? ⟨b2, o2 + j * 11 + 4, none⟩ = some (.int .i64 n2) ∧ W.cell? ⟨b2, o2 + j * 11 + 5, none⟩ = some (.string s2) ∧ W.cell? ⟨b2, o2 + j * 11 + 6, none⟩ = some (.slice la2 ll2 lc2) ∧ W.cell? ⟨b2, o2 + j * 11 + 7, none⟩ = some (.slice fa2 fl2 fc2) ∧ W.cell? ⟨b2, o2 + j * 11 + 8, none⟩ = some (.int .u8 e2) ∧ W.cell? ⟨b2, o2 + j * 11 + 9, none⟩ = some (.string key2) ∧ W.cell? ⟨b2, o2 + j * 11 + 10, none⟩ = some (.bool hk2)) W) := Lib.hid (fun W hb => by
                  have ha := hat1.below hb
                  have hb2 := hat.below hb
                  exact ⟨hb, HBS.out W hb, ha 0 (by simp [C.cells, V.cells]), ha 1 (by simp [C.cells, V.cells]), ha 2 (by simp [C.cells, V.cells]), ha 3 (by simp [C.cells, V.cells]), ha 4 (by simp [C.cells, V.cells]), ha 5 (by simp [C.cells, V.cells]), ha 6 (by simp [C.cells, V.cells]), ha 7 (by simp [C.cells, V.cells]), ha 8 (by simp [C.cells, V.cells]), ha 9 (by simp [C.cells, V.cells]), ha 10 (by simp [C.cells, V.cells]), hb2 0 (by simp [C.cells, V.cells]), hb2 1 (by simp [C.cells, V.cells]), hb2 2 (by simp [C.cells, V.cells]), hb2 3 (by simp [C.cells, V.cells]), hb2 4 (by simp [C.cells, V.cells]), hb2 5 (by simp [C.cells, V.cells]), hb2 6 (by simp [C.cells, V.cells]), hb2 7 (by simp [C.cells, V.cells]), hb2 8 (by simp [C.cells, V.cells]), hb2 9 (by simp [C.cells, V.cells]), hb2 10 (by simp [C.cells, V.cells])⟩)
                have hS0 := KS.out _ (Below.refl _ _)
                clear hat1 hin1 hat hin hv1 hv2
                simp only [C.agg, C.cells, V.cells, C.key] at HE HHj
                obtain ⟨-, q1, q2⟩ := KS.out _ (Below.refl _ _)
                clear hS0
                go_wp2_with (go_at_call 17; (with_reducible refine (HHj.out).mono ?_); rintro x w1 ⟨rfl, rfl⟩)
                clear q1 q2
                go_region_held3 (fun W => Below wr.heap.size wr W ∧ W.cell? ⟨gs, p, none⟩ = some (.bool false) ∧ W.cell? ⟨b1, o1 + p * 11, none⟩ = some (.string ck1) ∧ W.cell? ⟨b1, o1 + p * 11 + 1, none⟩ = some (.int .u8 ce1) ∧ W.cell? ⟨b1, o1 + p * 11 + 2, none⟩ = some (.string cn1) ∧ W.cell? ⟨b1, o1 + p * 11 + 3, none⟩ = some (.int .u8 k1) ∧ W.cell? ⟨b1, o1 + p * 11 + 4, none⟩ = some (.int .i64 n1) ∧ W.cell? ⟨b1, o1 + p * 11 + 5, none⟩ = some (.string s1) ∧ W.cell? ⟨b1, o1 + p * 11 + 6, none⟩ = some (.slice la1 ll1 lc1) ∧ W.cell? ⟨b1, o1 + p * 11 + 7, none⟩ = some (.slice fa1 fl1 fc1) ∧ W.cell? ⟨b1, o1 + p * 11 + 8, none⟩ = some (.int .u8 e1) ∧ W.cell? ⟨b1, o1 + p * 11 + 9, none⟩ = some (.string key1) ∧ W.cell? ⟨b1, o1 + p * 11 + 10, none⟩ = some (.bool hk1) ∧ W.cell? ⟨b2, o2 + j * 11, none⟩ = some (.string ck2) ∧ W.cell? ⟨b2, o2 + j * 11 + 1, none⟩ = some (.int .u8 ce2) ∧ W.cell? ⟨b2, o2 + j * 11 + 2, none⟩ = some (.string cn2) ∧ W.cell? ⟨b2, o2 + j * 11 + 3, none⟩ = some (.int .u8 k2) ∧ W.cell? ⟨b2, o2 + j * 11 + 4, none⟩ = some (.int .i64 n2) ∧ W.cell? ⟨b2, o2 + j * 11 + 5, none⟩ = some (.string s2) ∧ W.cell? ⟨b2, o2 + j * 11 + 6, none⟩ = some (.slice la2 ll2 lc2) ∧ W.cell? ⟨b2, o2 + j * 11 + 7, none⟩ = some (.slice fa2 fl2 fc2) ∧ W.cell? ⟨b2, o2 + j * 11 + 8, none⟩ = some (.int .u8 e2) ∧ W.cell? ⟨b2, o2 + j * 11 + 9, none⟩ = some (.string key2) ∧ W.cell? ⟨b2, o2 + j * 11 + 10, none⟩ = some (.bool hk2))
                  (first | exact KS.out _ ((Below.refl _ _).drew) | exact KS.out _ (Below.trans (And.left (by assumption)) (Below.mono (by assumption) (Below.size (And.left (by assumption))))))
                  (first | (go_at_call 18; (with_reducible refine (HE.out _ ?_).mono ?_); (go_split_ands; assumption); rintro x wx ⟨rfl, hbx⟩))
                have HX := Lib.hid (And.left (by assumption : (fun W => Below wr.heap.size wr W ∧ W.cell? ⟨gs, p, none⟩ = some (.bool false) ∧ W.cell? ⟨b1, o1 + p * 11, none⟩ = some (.string ck1) ∧ W.cell? ⟨b1, o1 + p * 11 + 1, none⟩ = some (.int .u8 ce1) ∧ W.cell? ⟨b1, o1 + p * 11 + 2, none⟩ = some (.string cn1) ∧ W.cell? ⟨b1, o1 + p * 11 + 3, none⟩ = some (.int .u8 k1) ∧ W.cell? ⟨b1, o1 + p * 11 + 4, none⟩ = some (.int .i64 n1) ∧ W.cell? ⟨b1, o1 + p * 11 + 5, none⟩ = some (.string s1) ∧ W.cell? ⟨b1, o1 + p * 11 + 6, none⟩ = some (.slice la1 ll1 lc1) ∧ W.cell? ⟨b1, o1 + p * 11 + 7, none⟩ = some (.slice fa1 fl1 fc1) ∧ W.cell? ⟨b1, o1 + p * 11 + 8, none⟩ = some (.int .u8 e1) ∧ W.cell? ⟨b1, o1 + p * 11 + 9, none⟩ = some (.string key1) ∧ W.cell? ⟨b1, o1 + p * 11 + 10, none⟩ = some (.bool hk1) ∧ W.cell? ⟨b2, o2 + j * 11, none⟩ = some (.string ck2) ∧ W.cell? ⟨b2, o2 + j * 11 + 1, none⟩ = some (.int .u8 ce2) ∧ W.cell? ⟨b2, o2 + j * 11 + 2, none⟩ = some (.string cn2) ∧ W.cell? ⟨b2, o2 + j * 11 + 3, none⟩ = some (.int .u8 k2) ∧ W.cell? ⟨b2, o2 + j * 11 + 4, none⟩ = some (.int .i64 n2) ∧ W.cell? ⟨b2, o2 + j * 11 + 5, none⟩ = some (.string s2) ∧ W.cell? ⟨b2, o2 + j * 11 + 6, none⟩ = some (.slice la2 ll2 lc2) ∧ W.cell? ⟨b2, o2 + j * 11 + 7, none⟩ = some (.slice fa2 fl2 fc2) ∧ W.cell? ⟨b2, o2 + j * 11 + 8, none⟩ = some (.int .u8 e2) ∧ W.cell? ⟨b2, o2 + j * 11 + 9, none⟩ = some (.string key2) ∧ W.cell? ⟨b2, o2 + j * 11 + 10, none⟩ = some (.bool hk2)) _))
                obtain ⟨-, q1, -⟩ := KS.out _ HX.out
                have hfz := HFZ.out _ HX.out
                obtain ⟨hn1, hn2⟩ := HNX.out _ HX.out
                have HSX := Lib.hid hn1
                have HOX := Lib.hid ((own_below HO.out HX.out).kept hn2 (.inr (fun e => by have := (HO.out.lt gs e).1; omega)))
                have HBX := Lib.hid ((HB.out.trans (HX.out.mono HB.out.size)).grown hn2 (Nat.le_trans HB.out.size HX.out.size) (fun k e => by cases e; exact (HS.out.lt).1))
                have HZX := Lib.hid (Nat.le_trans HZ.out (Nat.le_trans HX.out.size hn2.size))
                clear hn1 hn2
                go_wp2_with (at_builtin; refine wpList_append_own _ rfl _ _ 26 rfl w4.heap.size 3 i0 (.int .i64 0) 1 8 Tryz.underlying26 hi hz0 hz1 hz2 rfl (by decide) _ _ _ rfl (HOX.out.alloc _) ⟨_, 0, none⟩ 1 1 [.int .i64 (p)] rfl rfl ?c1 ?c2 ?c3 ?c4 ?c5 ?_)
                case c1 => first | exact cell_one_new _ _ _ | (have hc1 := cell_one_new (wx.setCell ⟨gs, p, none⟩ (.bool true)) (.int .i64 (p : Int)) 3; rw [show (wx.setCell ⟨gs, p, none⟩ (.bool true)).heap.size = wx.heap.size from by simp [World.setCell]] at hc1; exact hc1)
                case c2 => simp [Value.oneCell']
                case c3 => unfold maxLen; omega
                case c4 => omega
                case c5 => exact Nat.le_trans HZX.out (below_alloc _ _).size
                intro v' w8 hown' hgrow _
                have hsz8 := hgrow.size
                have HO8 : Hid (w8.ownsRow w4.heap.size 3 1 v' (j + 1) (rowI (j + 1) (matM K N ll))) := Lib.hid (by rw [rowI_snoc, HMJ.out]; exact hown')
                have HS8 : Hid (OwnV w8 w.heap.size gs ll 4 (fun p => .bool (seenM (matM K N ll) (j + 1) p))) := Lib.hid ((HSX.out.below (below_alloc _ _)).kept hgrow (fun e => by have := (HOX.out.lt gs e.symm).1; omega))
                have HB8 : Hid (Below w.heap.size w w8) := Lib.hid ((HBX.out.alloc HBX.out.size _).grown hgrow (Nat.le_trans HBX.out.size (below_alloc _ _).size) (fun g e => by have := (HOX.out.lt g e).1; have := HB4.out.size; omega))
                have HZ8 : Hid (w4.heap.size ≤ w8.heap.size) := Lib.hid (Nat.le_trans HZX.out (Nat.le_trans (below_alloc _ _).size hsz8))
                clear hown' hgrow hsz8
                go_wp2_with fail
                go_roundw
                case rel => exact ⟨j + 1, by omega, by go_num, HO8.out, HS8.out, HB8.out, HZ8.out⟩
                case measure => simp [intOf]; omega
          | false =>
            have HMJ : Hid (matM K N ll j = -1) := Lib.hid (by rw [ref_some hf hsn, hal]; simp)
            obtain ⟨⟨b1, o1, rfl, hat1⟩, hin1⟩ := HK.out _ HB.out p hpl
            have HE : Hid (∀ W, Below wr.heap.size wr W → Calls Tryz.prog 18 #[(K p).agg, (N j).agg] W fun x w' => x = .returned (.bool false) ∧ Below W.heap.size W w') := Lib.hid (fun W hb => hal ▸ ralike_all (K p) (N j) W (hin1.2.2.2.below hb) (hin.2.2.2.below hb))
            have hbs : ∀ W, Below wr.heap.size wr W → W.cell? ⟨gs, p, none⟩ = some (.bool false) := fun W hb => by rw [hb.cell (p := ⟨gs, p, none⟩) (World.block_lt_of_cell? _ _ hs0)]; exact hs0
            have HBS := Lib.hid hbs
            clear hal hbs hs0
            obtain ⟨c1, hc1⟩ : ∃ c, K p = c := ⟨_, rfl⟩
            obtain ⟨c2, hc2⟩ : ∃ c, N j = c := ⟨_, rfl⟩
            rw [hc1] at hat1 hin1 HE
            rw [hc2] at hat hin HE HHj
            have HC := Lib.hid (And.intro hc1 hc2)
            clear hc1 hc2
            have hv1 : c1.val.In wr := hin1.2.2.2
            have hv2 : c2.val.In wr := hin.2.2.2
            obtain ⟨ck1, ce1, cn1, v1⟩ := c1
            cases v1 with
            | leaf => exact (hv1).elim
            | mk k1 n1 s1 la1 ll1 lc1 L1 fa1 fl1 fc1 fn1 F1 e1 key1 hk1 =>
              obtain ⟨ck2, ce2, cn2, v2⟩ := c2
              cases v2 with
              | leaf => exact (hv2).elim
              | mk k2 n2 s2 la2 ll2 lc2 L2 fa2 fl2 fc2 fn2 F2 e2 key2 hk2 =>
                have KS : Hid (∀ W, Below wr.heap.size wr W → (fun W => Below wr.heap.size wr W ∧ W.cell? ⟨gs, p, none⟩ = some (.bool false) ∧ W.cell? ⟨b1, o1 + p * 11, none⟩ = some (.string ck1) ∧ W.cell? ⟨b1, o1 + p * 11 + 1, none⟩ = some (.int .u8 ce1) ∧ W.cell? ⟨b1, o1 + p * 11 + 2, none⟩ = some (.string cn1) ∧ W.cell? ⟨b1, o1 + p * 11 + 3, none⟩ = some (.int .u8 k1) ∧ W.cell? ⟨b1, o1 + p * 11 + 4, none⟩ = some (.int .i64 n1) ∧ W.cell? ⟨b1, o1 + p * 11 + 5, none⟩ = some (.string s1) ∧ W.cell? ⟨b1, o1 + p * 11 + 6, none⟩ = some (.slice la1 ll1 lc1) ∧ W.cell? ⟨b1, o1 + p * 11 + 7, none⟩ = some (.slice fa1 fl1 fc1) ∧ W.cell? ⟨b1, o1 + p * 11 + 8, none⟩ = some (.int .u8 e1) ∧ W.cell? ⟨b1, o1 + p * 11 + 9, none⟩ = some (.string key1) ∧ W.cell? ⟨b1, o1 + p * 11 + 10, none⟩ = some (.bool hk1) ∧ W.cell? ⟨b2, o2 + j * 11, none⟩ = some (.string ck2) ∧ W.cell? ⟨b2, o2 + j * 11 + 1, none⟩ = some (.int .u8 ce2) ∧ W.cell? ⟨b2, o2 + j * 11 + 2, none⟩ = some (.string cn2) ∧ W.cell? ⟨b2, o2 + j * 11 + 3, none⟩ = some (.int .u8 k2) ∧ W.cell? ⟨b2, o2 + j * 11 + 4, none⟩ = some (.int .i64 n2) ∧ W.cell? ⟨b2, o2 + j * 11 + 5, none⟩ = some (.string s2) ∧ W.cell? ⟨b2, o2 + j * 11 + 6, none⟩ = some (.slice la2 ll2 lc2) ∧ W.cell? ⟨b2, o2 + j * 11 + 7, none⟩ = some (.slice fa2 fl2 fc2) ∧ W.cell? ⟨b2, o2 + j * 11 + 8, none⟩ = some (.int .u8 e2) ∧ W.cell? ⟨b2, o2 + j * 11 + 9, none⟩ = some (.string key2) ∧ W.cell? ⟨b2, o2 + j * 11 + 10, none⟩ = some (.bool hk2)) W) := Lib.hid (fun W hb => by
                  have ha := hat1.below hb
                  have hb2 := hat.below hb
                  exact ⟨hb, HBS.out W hb, ha 0 (by simp [C.cells, V.cells]), ha 1 (by simp [C.cells, V.cells]), ha 2 (by simp [C.cells, V.cells]), ha 3 (by simp [C.cells, V.cells]), ha 4 (by simp [C.cells, V.cells]), ha 5 (by simp [C.cells, V.cells]), ha 6 (by simp [C.cells, V.cells]), ha 7 (by simp [C.cells, V.cells]), ha 8 (by simp [C.cells, V.cells]), ha 9 (by simp [C.cells, V.cells]), ha 10 (by simp [C.cells, V.cells]), hb2 0 (by simp [C.cells, V.cells]), hb2 1 (by simp [C.cells, V.cells]), hb2 2 (by simp [C.cells, V.cells]), hb2 3 (by simp [C.cells, V.cells]), hb2 4 (by simp [C.cells, V.cells]), hb2 5 (by simp [C.cells, V.cells]), hb2 6 (by simp [C.cells, V.cells]), hb2 7 (by simp [C.cells, V.cells]), hb2 8 (by simp [C.cells, V.cells]), hb2 9 (by simp [C.cells, V.cells]), hb2 10 (by simp [C.cells, V.cells])⟩)
                have hS0 := KS.out _ (Below.refl _ _)
                clear hat1 hin1 hat hin hv1 hv2
                simp only [C.agg, C.cells, V.cells, C.key] at HE HHj
                obtain ⟨-, q1, q2⟩ := KS.out _ (Below.refl _ _)
                clear hS0
                go_wp2_with (go_at_call 17; (with_reducible refine (HHj.out).mono ?_); rintro x w1 ⟨rfl, rfl⟩)
                clear q1 q2
                go_region_held3 (fun W => Below wr.heap.size wr W ∧ W.cell? ⟨gs, p, none⟩ = some (.bool false) ∧ W.cell? ⟨b1, o1 + p * 11, none⟩ = some (.string ck1) ∧ W.cell? ⟨b1, o1 + p * 11 + 1, none⟩ = some (.int .u8 ce1) ∧ W.cell? ⟨b1, o1 + p * 11 + 2, none⟩ = some (.string cn1) ∧ W.cell? ⟨b1, o1 + p * 11 + 3, none⟩ = some (.int .u8 k1) ∧ W.cell? ⟨b1, o1 + p * 11 + 4, none⟩ = some (.int .i64 n1) ∧ W.cell? ⟨b1, o1 + p * 11 + 5, none⟩ = some (.string s1) ∧ W.cell? ⟨b1, o1 + p * 11 + 6, none⟩ = some (.slice la1 ll1 lc1) ∧ W.cell? ⟨b1, o1 + p * 11 + 7, none⟩ = some (.slice fa1 fl1 fc1) ∧ W.cell? ⟨b1, o1 + p * 11 + 8, none⟩ = some (.int .u8 e1) ∧ W.cell? ⟨b1, o1 + p * 11 + 9, none⟩ = some (.string key1) ∧ W.cell? ⟨b1, o1 + p * 11 + 10, none⟩ = some (.bool hk1) ∧ W.cell? ⟨b2, o2 + j * 11, none⟩ = some (.string ck2) ∧ W.cell? ⟨b2, o2 + j * 11 + 1, none⟩ = some (.int .u8 ce2) ∧ W.cell? ⟨b2, o2 + j * 11 + 2, none⟩ = some (.string cn2) ∧ W.cell? ⟨b2, o2 + j * 11 + 3, none⟩ = some (.int .u8 k2) ∧ W.cell? ⟨b2, o2 + j * 11 + 4, none⟩ = some (.int .i64 n2) ∧ W.cell? ⟨b2, o2 + j * 11 + 5, none⟩ = some (.string s2) ∧ W.cell? ⟨b2, o2 + j * 11 + 6, none⟩ = some (.slice la2 ll2 lc2) ∧ W.cell? ⟨b2, o2 + j * 11 + 7, none⟩ = some (.slice fa2 fl2 fc2) ∧ W.cell? ⟨b2, o2 + j * 11 + 8, none⟩ = some (.int .u8 e2) ∧ W.cell? ⟨b2, o2 + j * 11 + 9, none⟩ = some (.string key2) ∧ W.cell? ⟨b2, o2 + j * 11 + 10, none⟩ = some (.bool hk2))
                  (first | exact KS.out _ ((Below.refl _ _).drew) | exact KS.out _ (Below.trans (And.left (by assumption)) (Below.mono (by assumption) (Below.size (And.left (by assumption))))))
                  (first | (go_at_call 18; (with_reducible refine (HE.out _ ?_).mono ?_); (go_split_ands; assumption); rintro x wx ⟨rfl, hbx⟩))
                have HX := Lib.hid (And.left (by assumption : (fun W => Below wr.heap.size wr W ∧ W.cell? ⟨gs, p, none⟩ = some (.bool false) ∧ W.cell? ⟨b1, o1 + p * 11, none⟩ = some (.string ck1) ∧ W.cell? ⟨b1, o1 + p * 11 + 1, none⟩ = some (.int .u8 ce1) ∧ W.cell? ⟨b1, o1 + p * 11 + 2, none⟩ = some (.string cn1) ∧ W.cell? ⟨b1, o1 + p * 11 + 3, none⟩ = some (.int .u8 k1) ∧ W.cell? ⟨b1, o1 + p * 11 + 4, none⟩ = some (.int .i64 n1) ∧ W.cell? ⟨b1, o1 + p * 11 + 5, none⟩ = some (.string s1) ∧ W.cell? ⟨b1, o1 + p * 11 + 6, none⟩ = some (.slice la1 ll1 lc1) ∧ W.cell? ⟨b1, o1 + p * 11 + 7, none⟩ = some (.slice fa1 fl1 fc1) ∧ W.cell? ⟨b1, o1 + p * 11 + 8, none⟩ = some (.int .u8 e1) ∧ W.cell? ⟨b1, o1 + p * 11 + 9, none⟩ = some (.string key1) ∧ W.cell? ⟨b1, o1 + p * 11 + 10, none⟩ = some (.bool hk1) ∧ W.cell? ⟨b2, o2 + j * 11, none⟩ = some (.string ck2) ∧ W.cell? ⟨b2, o2 + j * 11 + 1, none⟩ = some (.int .u8 ce2) ∧ W.cell? ⟨b2, o2 + j * 11 + 2, none⟩ = some (.string cn2) ∧ W.cell? ⟨b2, o2 + j * 11 + 3, none⟩ = some (.int .u8 k2) ∧ W.cell? ⟨b2, o2 + j * 11 + 4, none⟩ = some (.int .i64 n2) ∧ W.cell? ⟨b2, o2 + j * 11 + 5, none⟩ = some (.string s2) ∧ W.cell? ⟨b2, o2 + j * 11 + 6, none⟩ = some (.slice la2 ll2 lc2) ∧ W.cell? ⟨b2, o2 + j * 11 + 7, none⟩ = some (.slice fa2 fl2 fc2) ∧ W.cell? ⟨b2, o2 + j * 11 + 8, none⟩ = some (.int .u8 e2) ∧ W.cell? ⟨b2, o2 + j * 11 + 9, none⟩ = some (.string key2) ∧ W.cell? ⟨b2, o2 + j * 11 + 10, none⟩ = some (.bool hk2)) _))
                have HSX : Hid (OwnV _ w.heap.size gs ll 4 (fun p => .bool (seenM (matM K N ll) (j + 1) p))) := Lib.hid ((show OwnV wr w.heap.size gs ll 4 (fun p => .bool (seenM (matM K N ll) (j + 1) p)) from by simpa only [seenM_no HMJ.out] using HS.out).below HX.out)
                have HOX := Lib.hid (own_below HO.out HX.out)
                have HBX := Lib.hid (HB.out.trans (HX.out.mono HB.out.size))
                have HZX := Lib.hid (Nat.le_trans HZ.out HX.out.size)
                go_wp2_with (at_builtin; refine wpList_append_own _ rfl _ _ 26 rfl w4.heap.size 3 i0 (.int .i64 0) 1 8 Tryz.underlying26 hi hz0 hz1 hz2 rfl (by decide) _ _ _ rfl (HOX.out.alloc _) ⟨_, 0, none⟩ 1 1 [.int .i64 (-1)] rfl rfl ?c1 ?c2 ?c3 ?c4 ?c5 ?_)
                case c1 => first | exact cell_one_new _ _ _ | (have hc1 := cell_one_new (wx.setCell ⟨gs, p, none⟩ (.bool true)) (.int .i64 (p : Int)) 3; rw [show (wx.setCell ⟨gs, p, none⟩ (.bool true)).heap.size = wx.heap.size from by simp [World.setCell]] at hc1; exact hc1)
                case c2 => simp [Value.oneCell']
                case c3 => unfold maxLen; omega
                case c4 => omega
                case c5 => exact Nat.le_trans HZX.out (below_alloc _ _).size
                intro v' w8 hown' hgrow _
                have hsz8 := hgrow.size
                have HO8 : Hid (w8.ownsRow w4.heap.size 3 1 v' (j + 1) (rowI (j + 1) (matM K N ll))) := Lib.hid (by rw [rowI_snoc, HMJ.out]; exact hown')
                have HS8 : Hid (OwnV w8 w.heap.size gs ll 4 (fun p => .bool (seenM (matM K N ll) (j + 1) p))) := Lib.hid ((HSX.out.below (below_alloc _ _)).kept hgrow (fun e => by have := (HOX.out.lt gs e.symm).1; omega))
                have HB8 : Hid (Below w.heap.size w w8) := Lib.hid ((HBX.out.alloc HBX.out.size _).grown hgrow (Nat.le_trans HBX.out.size (below_alloc _ _).size) (fun g e => by have := (HOX.out.lt g e).1; have := HB4.out.size; omega))
                have HZ8 : Hid (w4.heap.size ≤ w8.heap.size) := Lib.hid (Nat.le_trans HZX.out (Nat.le_trans (below_alloc _ _).size hsz8))
                clear hown' hgrow hsz8
                go_wp2_with fail
                go_roundw
                case rel => exact ⟨j + 1, by omega, by go_num, HO8.out, HS8.out, HB8.out, HZ8.out⟩
                case measure => simp [intOf]; omega
    · obtain rfl : nl = j := by omega
      obtain ⟨a, cap, e, h1, h2, h3⟩ := il_row HO.out
      subst e
      have H3 := Lib.hid h3
      clear h3
      go_wp2_with fail
      go_ret
      exact ⟨a, cap, rfl, h1, h2, H3.out, HB.out⟩
end Go.Proofs.YtpmkkgndpfbkdaaGreatDoor
