/-
  Walks: alive of the laws on matching returns true, at whatever world; lists of children that were made just now.
  Conditions: none.
-/
import Derived.Test.YtpmkkgndpfbkdaaDoorMaV
namespace Go.Proofs.YtpmkkgndpfbkdaaDoor
set_option linter.unusedVariables false
set_option linter.unusedSimpArgs false
open Go.RowKit Go.Deep Go.WideShapes

/-- The child in a place of a list. -/
def getC (cs : List C) (i : Nat) : C := cs.getD i (zch ⟨#[]⟩ 0)
theorem getC_at {cs : List C} {i : Nat} (h : i < cs.length) : getC cs i = cs[i] := by simp [getC, List.getD, List.getElem?_eq_getElem h]
theorem cell11 {w : World} {c : C} (h : c.val.In w) : c.cells.length = 11 := by
  obtain ⟨key, k, s, v⟩ := c
  cases v with
  | leaf => exact h.elim
  | mk => rfl
theorem fm_at : ∀ (cs : List C), (∀ c ∈ cs, c.cells.length = 11) → ∀ (j : Nat) (hj : j < cs.length) (q : Nat), q < 11 → (cs.flatMap C.cells)[j * 11 + q]? = (cs[j]).cells[q]?
  | [], _, j, hj, _, _ => absurd hj (by simp)
  | c :: r, h, 0, _, q, hq => by
    rw [List.flatMap_cons, Nat.zero_mul, Nat.zero_add, List.getElem?_append_left (by rw [h c (List.mem_cons_self ..)]; exact hq)]
    rfl
  | c :: r, h, j + 1, hj, q, hq => by
    have h0 := h c (List.mem_cons_self ..)
    rw [List.flatMap_cons, List.getElem?_append_right (by rw [h0]; omega), h0, show (j + 1) * 11 + q - 11 = j * 11 + q by omega, fm_at r (fun d hd => h d (List.mem_cons_of_mem _ hd)) j (by simpa using hj) q hq]
    rfl
theorem fm_len : ∀ (cs : List C), (∀ c ∈ cs, c.cells.length = 11) → (cs.flatMap C.cells).length = cs.length * 11
  | [], _ => by simp
  | c :: r, h => by
    rw [List.flatMap_cons, List.length_append, h c (List.mem_cons_self ..), fm_len r (fun d hd => h d (List.mem_cons_of_mem _ hd)), List.length_cons]
    omega
/-- A row of children is a list of children. -/
theorem clst_row {W : World} {g n cap : Nat} {cs : List C} (hn : cs.length = n) (h : At W g 0 (cs.flatMap C.cells)) (hin : ∀ c ∈ cs, c.In W) (h1 : n ≤ cap) (h2 : cap ≤ maxLen) : CLst W (some ⟨g, 0, none⟩) n cap (getC cs) := by
  subst hn
  refine ⟨⟨h1, h2⟩, fun i hi => ?_⟩
  have h11 : ∀ c ∈ cs, c.cells.length = 11 := fun c hc => cell11 (hin c hc).2.2.2
  rw [getC_at hi]
  refine ⟨⟨g, 0, rfl, fun q hq => ?_⟩, hin _ (List.getElem_mem hi)⟩
  rw [h11 _ (List.getElem_mem hi)] at hq
  have := h (i * 11 + q) (by rw [fm_len cs h11]; omega)
  rw [fm_at cs h11 i hi q hq] at this
  rw [Nat.zero_add] at this ⊢
  exact this
theorem CLst.take {w : World} {la : Option Addr} {ll lc : Nat} {K : Nat → C} (h : CLst w la ll lc K) {m : Nat} (hm : m ≤ ll) : CLst w la m lc K :=
  ⟨⟨Nat.le_trans hm h.cap.1, h.cap.2⟩, fun i hi => h.els i (Nat.lt_of_lt_of_le hi hm)⟩
theorem clst_nil (w : World) (K : Nat → C) : CLst w none 0 0 K := ⟨⟨Nat.le_refl _, Nat.zero_le _⟩, fun i hi => absurd hi (Nat.not_lt_zero _)⟩
theorem at_laid (w : World) (cs : List Value) (T : TypeId) : At (w.alloc (.cells cs.toArray T)) w.heap.size 0 cs := fun i hi => by
  rw [Nat.zero_add]
  simp
theorem zch_in {key : ByteArray} {k : Int} (w : World) (h1 : key.size ≤ maxLen) (h2 : 0 ≤ k ∧ k ≤ 255) : (zch key k).In w := ⟨h1, h2, Nat.zero_le _, zvh_in w⟩
theorem il_laid (w : World) (xs : List Int) (T : TypeId) (n : Nat) (hn : xs.length = n) : IL (w.alloc (.cells (xs.map (Value.int .i64)).toArray T)) (some ⟨w.heap.size, 0, none⟩) n (fun i => xs.getD i 0) := fun j hj => by
  refine ⟨w.heap.size, 0, rfl, ?_⟩
  rw [at_laid w _ T j (by simpa using hn ▸ hj)]
  subst hn
  simp [List.getD, List.getElem?_eq_getElem hj]

theorem CLst.congr {w : World} {la : Option Addr} {ll lc : Nat} {K K' : Nat → C} (h : CLst w la ll lc K) (e : ∀ i, i < ll → K i = K' i) : CLst w la ll lc K' := ⟨h.cap, fun i hi => by rw [← e i hi]; exact h.els i hi⟩
theorem one_cells {w : World} {c : C} (h : c.val.In w) : ∀ u ∈ c.cells, u.oneCell' = true := by
  obtain ⟨key, k, s, v⟩ := c
  cases v with
  | leaf => exact h.elim
  | mk => intro u hu; simp [C.cells, V.cells] at hu; rcases hu with rfl | rfl | rfl | rfl | rfl | rfl | rfl | rfl | rfl | rfl | rfl <;> rfl
theorem row_mem {w : World} {base g n cap size T : Nat} {xs : List Value} (h : w.ownsRow base T size (.slice (some ⟨g, 0, none⟩) n cap) n xs) : At w g 0 xs := fun j hj => by
  have := World.ownsRow.cells h (g := g) rfl j xs[j] (List.getElem?_eq_getElem hj)
  rw [List.getElem?_eq_getElem hj, ← this, add_plain]
/-- A row of children that the call owns is a list of children. -/
theorem row_clst {w : World} {base : Nat} {v : Value} {cs : List C} {n T : Nat} (hn : cs.length = n) (h : w.ownsRow base T 11 v n (cs.flatMap C.cells)) (hin : ∀ c ∈ cs, c.In w) : ∃ a cap, v = .slice a n cap ∧ CLst w a n cap (getC cs) := by
  have hh := h
  rcases h.2 with ⟨rfl, h0⟩ | ⟨g, cap, cur, rfl, _, _, h1, h2, _⟩
  · exact ⟨none, 0, by rw [h0], ⟨by omega, by decide⟩, fun i hi => absurd hi (by omega)⟩
  · exact ⟨some ⟨g, 0, none⟩, cap, rfl, clst_row hn (row_mem hh) hin h1 h2⟩
abbrev kx : ByteArray := ⟨#[107, 58, 120]⟩
abbrev ky : ByteArray := ⟨#[107, 58, 121]⟩
abbrev ki : ByteArray := ⟨#[105, 58, 49]⟩
def oldL : List C := [zch kx 1, zch ky 1]
def nextL : List C := [zch ky 1, zch ki 1, zch kx 2]
def twoL : List C := [zch kx 1, zch kx 1]
theorem mat1 : ∀ i, i < 3 → matM (getC oldL) (getC nextL) 2 i = ([1, -1, -1] : List Int).getD i 0
  | 0, _ => by decide
  | 1, _ => by decide
  | 2, _ => by decide
  | n + 3, h => absurd h (by omega)
theorem mat2 : ∀ i, i < 2 → matM (getC oldL) (getC twoL) 1 i = ([0, -1] : List Int).getD i 0
  | 0, _ => by decide
  | 1, _ => by decide
  | n + 2, h => absurd h (by omega)
theorem same_true {n : Nat} {g g' : Nat → Int} (h : ∀ i, i < n → g i = g' i) : (decide (n = n) && allB n (fun i => decide (g i = g' i))) = true := by
  rw [decide_eq_true rfl, Bool.true_and, allB_true]
  exact fun i hi => decide_eq_true (h i hi)

/-- What stands at every later world: the two lists. -/
structure AL (w0 w : World) (a b : Nat) : Prop where
  low : Below w0.heap.size w0 w
  old : CLst w (some ⟨a, 0, none⟩) 2 2 (getC oldL)
  next : CLst w (some ⟨b, 0, none⟩) 3 3 (getC nextL)
  at' : At w a 0 (zch kx 1).cells
theorem AL.below {w0 w w' : World} {a b : Nat} (h : AL w0 w a b) (hb : Below w.heap.size w w') : AL w0 w' a b := ⟨h.low.trans (hb.mono h.low.size), h.old.below hb, h.next.below hb, h.at'.below hb⟩
theorem il3 (w : World) : IL (w.alloc (.cells #[.int .i64 1, .int .i64 (-1), .int .i64 (-1)] 3)) (some ⟨w.heap.size, 0, none⟩) 3 (fun i => ([1, -1, -1] : List Int).getD i 0) := il_laid w [1, -1, -1] 3 3 rfl
theorem il2 (w : World) : IL (w.alloc (.cells #[.int .i64 0, .int .i64 (-1)] 3)) (some ⟨w.heap.size, 0, none⟩) 2 (fun i => ([0, -1] : List Int).getD i 0) := il_laid w [0, -1] 3 2 rfl
theorem il3n {w : World} {g : Nat} (hg : w.heap.size = g) : IL (w.alloc (.cells #[.int .i64 1, .int .i64 (-1), .int .i64 (-1)] 3)) (some ⟨g, 0, none⟩) 3 (fun i => ([1, -1, -1] : List Int).getD i 0) := hg ▸ il3 w
theorem il3d {w : World} {g : Nat} (hg : w.heap.size = g) : IL (w.alloc (.cells #[.int .i64 1, .int .i64 (-1), .int .i64 (-1)] 3)).drew (some ⟨g, 0, none⟩) 3 (fun i => ([1, -1, -1] : List Int).getD i 0) := il3n hg
theorem il3e {w : World} {g : Nat} (hg : w.heap.size = g) : IL (w.drew.alloc (.cells #[.int .i64 1, .int .i64 (-1), .int .i64 (-1)] 3)) (some ⟨g, 0, none⟩) 3 (fun i => ([1, -1, -1] : List Int).getD i 0) := il3n hg
theorem il2n {w : World} {g : Nat} (hg : w.heap.size = g) : IL (w.alloc (.cells #[.int .i64 0, .int .i64 (-1)] 3)) (some ⟨g, 0, none⟩) 2 (fun i => ([0, -1] : List Int).getD i 0) := hg ▸ il2 w
theorem at_laidn {w : World} {g : Nat} {cs : List Value} {T : TypeId} (hg : w.heap.size = g) : At (w.alloc (.cells cs.toArray T)) g 0 cs := hg ▸ at_laid w cs T
theorem below_drewal (w : World) (O : Obj) : Below w.heap.size w (w.drew.alloc O) := (Below.refl _ _).drew.alloc (Nat.le_refl _) _
/-- What Match leaves in alive. -/
def AMat (W : World) (n : Nat) (xs : List Int) (x : Ending) (w' : World) : Prop := ∃ g, x = .returned (.slice (some ⟨g, 0, none⟩) n n) ∧ IL w' (some ⟨g, 0, none⟩) n (fun i => xs.getD i 0) ∧ Below W.heap.size W w'

set_option maxRecDepth 100000 in
set_option maxHeartbeats 4000000 in
theorem alive8_any (w : World) : Calls Tryd.prog 10 #[] w fun e w' => e = .returned (.bool true) ∧ Below w.heap.size w w' := by
  have HC := Lib.hid (fun key k W => chi8_any key k W)
  simp only [zch, zvh, C.agg, C.cells, V.cells] at HC
  go_enter Tryd.func10, Tryd.ntmps10
  go_wp2_with (go_at_call 19; (with_reducible refine (HC.out _ _ _).mono ?_); rintro x wa ⟨rfl, hba⟩; have HBA := Lib.hid hba; clear hba)
  rename_i wA hA wB hB wC hC wD hD _ _
  clear HC
  obtain ⟨W0, hW0⟩ : ∃ W, wa.alloc (.cells (nextL.flatMap C.cells).toArray 35) = W := ⟨_, rfl⟩
  have HAL : Hid (AL w W0 wB.heap.size wa.heap.size) := by
    obtain ⟨W1, hW1⟩ : ∃ W, wB.alloc (.cells (oldL.flatMap C.cells).toArray 35) = W := ⟨_, rfl⟩
    have hC' : Below W1.heap.size W1 wC := by rw [← hW1]; exact hC.out
    have b1 : Below w.heap.size w W1 := by rw [← hW1]; exact (hA.out.trans (hB.out.mono hA.out.size)).alloc (Nat.le_trans hA.out.size hB.out.size) _
    have b2 : Below W1.heap.size W1 wa := (hC'.trans (hD.out.mono hC'.size)).trans (HBA.out.mono (Nat.le_trans hC'.size hD.out.size))
    have b3 : Below W1.heap.size W1 W0 := by rw [← hW0]; exact b2.alloc b2.size _
    have a1 : At W1 wB.heap.size 0 (oldL.flatMap C.cells) := by rw [← hW1]; exact at_laid _ _ _
    have a2 : At W0 wa.heap.size 0 (nextL.flatMap C.cells) := by rw [← hW0]; exact at_laid _ _ _
    have hin : ∀ W, ∀ c ∈ oldL, c.In W := fun W c hc => by
      simp only [oldL, List.mem_cons, List.not_mem_nil, or_false] at hc
      rcases hc with rfl | rfl <;> exact zch_in W (by decide) (by decide)
    have hin2 : ∀ W, ∀ c ∈ nextL, c.In W := fun W c hc => by
      simp only [nextL, List.mem_cons, List.not_mem_nil, or_false] at hc
      rcases hc with rfl | rfl | rfl <;> exact zch_in W (by decide) (by decide)
    have hol : CLst W1 (some ⟨wB.heap.size, 0, none⟩) 2 2 (getC oldL) := clst_row rfl a1 (hin _) (by decide) (by decide)
    refine ⟨b1.trans (b3.mono b1.size), hol.below b3, clst_row rfl a2 (hin2 _) (by decide) (by decide), fun i hi => ?_⟩
    have := (a1.below b3) i (by simp [oldL, zch, zvh, C.cells, V.cells] at hi ⊢; omega)
    rw [this]
    simp only [oldL, List.flatMap_cons]
    rw [List.getElem?_append_left hi]
  have hW0' := hW0
  simp only [nextL, kx, ky, ki, zch, zvh, C.cells, V.cells, List.flatMap_cons, List.flatMap_nil, List.append_nil, List.cons_append, List.nil_append] at hW0'
  rw [hW0']
  clear hW0 hW0' hA hB hC hD HBA
  generalize wB.heap.size = a at HAL ⊢
  generalize wa.heap.size = b at HAL ⊢
  clear wA wB wC wD wa
  have KS : Hid (∀ W, Below W0.heap.size W0 W → (fun W => Below W0.heap.size W0 W ∧ W.cell? ⟨a, 0, none⟩ = some (.string ⟨#[107, 58, 120]⟩) ∧ W.cell? ⟨a, 1, none⟩ = some (.int .u8 1) ∧ W.cell? ⟨a, 2, none⟩ = some (.string ⟨#[]⟩) ∧ W.cell? ⟨a, 3, none⟩ = some (.int .u8 0) ∧ W.cell? ⟨a, 4, none⟩ = some (.int .i64 0) ∧ W.cell? ⟨a, 5, none⟩ = some (.string ⟨#[]⟩) ∧ W.cell? ⟨a, 6, none⟩ = some (.slice none 0 0) ∧ W.cell? ⟨a, 7, none⟩ = some (.slice none 0 0) ∧ W.cell? ⟨a, 8, none⟩ = some (.int .u8 0) ∧ W.cell? ⟨a, 9, none⟩ = some (.string ⟨#[]⟩) ∧ W.cell? ⟨a, 10, none⟩ = some (.bool false)) W) := fun W hb => by
    have ha := HAL.out.at'.below hb
    exact ⟨hb, ha 0 (by simp [zch, zvh, C.cells, V.cells]), ha 1 (by simp [zch, zvh, C.cells, V.cells]), ha 2 (by simp [zch, zvh, C.cells, V.cells]), ha 3 (by simp [zch, zvh, C.cells, V.cells]), ha 4 (by simp [zch, zvh, C.cells, V.cells]), ha 5 (by simp [zch, zvh, C.cells, V.cells]), ha 6 (by simp [zch, zvh, C.cells, V.cells]), ha 7 (by simp [zch, zvh, C.cells, V.cells]), ha 8 (by simp [zch, zvh, C.cells, V.cells]), ha 9 (by simp [zch, zvh, C.cells, V.cells]), ha 10 (by simp [zch, zvh, C.cells, V.cells])⟩
  have hS0 := KS.out _ (Below.refl _ _)
  have HM1 : Hid (∀ W, Below W0.heap.size W0 W → Calls Tryd.prog 11 #[.slice (some ⟨a, 0, none⟩) 2 2, .slice (some ⟨b, 0, none⟩) 3 3] W (AMat W 3 [1, -1, -1])) := fun W hb => by
    have h := HAL.out.below hb
    refine (match_any _ 2 2 (getC oldL) _ 3 3 (getC nextL) W h.old h.next (by decide)).mono fun x w' ⟨g, hp⟩ => ⟨g, hp.ret, fun j hj => ?_, hp.low⟩
    obtain ⟨b', o, e, hc⟩ := hp.own.il j hj
    exact ⟨b', o, e, by rw [hc, mat1 j hj]⟩
  have HM2 : Hid (∀ W gx, Below W0.heap.size W0 W → At W gx 0 (twoL.flatMap C.cells) → Calls Tryd.prog 11 #[.slice (some ⟨a, 0, none⟩) 1 2, .slice (some ⟨gx, 0, none⟩) 2 2] W (AMat W 2 [0, -1])) := fun W gx hb hx => by
    have h := HAL.out.below hb
    have h2 : CLst W (some ⟨gx, 0, none⟩) 2 2 (getC twoL) := clst_row rfl hx (fun c hc => by
      simp only [twoL, List.mem_cons, List.not_mem_nil, or_false, or_self] at hc
      subst hc
      exact zch_in W (by decide) (by decide)) (by decide) (by decide)
    refine (match_any _ 1 2 (getC oldL) _ 2 2 (getC twoL) W (h.old.take (by decide)) h2 (by decide)).mono fun x w' ⟨g, hp⟩ => ⟨g, hp.ret, fun j hj => ?_, hp.low⟩
    obtain ⟨b', o, e, hc⟩ := hp.own.il j hj
    exact ⟨b', o, e, by rw [hc, mat2 j hj]⟩
  have HM3 : Hid (∀ W, Below W0.heap.size W0 W → Calls Tryd.prog 11 #[.slice (some ⟨a, 0, none⟩) 2 2, .slice none 0 0] W (AMat W 0 [])) := fun W hb => by
    have h := HAL.out.below hb
    exact (match_any _ 2 2 (getC oldL) none 0 0 (getC []) W h.old (clst_nil _ _) (by decide)).mono fun x w' ⟨g, hp⟩ => ⟨g, hp.ret, fun j hj => absurd hj (Nat.not_lt_zero _), hp.low⟩
  have HS : Hid (∀ W n g1 g2 (xs : List Int), n ≤ maxLen → IL W (some ⟨g1, 0, none⟩) n (fun i => xs.getD i 0) → IL W (some ⟨g2, 0, none⟩) n (fun i => xs.getD i 0) → Calls Tryd.prog 20 #[.slice (some ⟨g1, 0, none⟩) n n, .slice (some ⟨g2, 0, none⟩) n n] W fun x w' => x = .returned (.bool true) ∧ Below W.heap.size W w') := fun W n g1 g2 xs hn h1 h2 => by
    have := sameInts_any W _ _ n n n n _ _ hn hn h1 h2
    rw [same_true (fun _ _ => rfl)] at this
    exact this
  simp only [twoL, kx, zch, zvh, C.cells, V.cells, List.flatMap_cons, List.flatMap_nil, List.append_nil, List.cons_append, List.nil_append] at HM2
  go_region_held3 (fun W => Below W0.heap.size W0 W ∧ W.cell? ⟨a, 0, none⟩ = some (.string ⟨#[107, 58, 120]⟩) ∧ W.cell? ⟨a, 1, none⟩ = some (.int .u8 1) ∧ W.cell? ⟨a, 2, none⟩ = some (.string ⟨#[]⟩) ∧ W.cell? ⟨a, 3, none⟩ = some (.int .u8 0) ∧ W.cell? ⟨a, 4, none⟩ = some (.int .i64 0) ∧ W.cell? ⟨a, 5, none⟩ = some (.string ⟨#[]⟩) ∧ W.cell? ⟨a, 6, none⟩ = some (.slice none 0 0) ∧ W.cell? ⟨a, 7, none⟩ = some (.slice none 0 0) ∧ W.cell? ⟨a, 8, none⟩ = some (.int .u8 0) ∧ W.cell? ⟨a, 9, none⟩ = some (.string ⟨#[]⟩) ∧ W.cell? ⟨a, 10, none⟩ = some (.bool false))
    (first | exact KS.out _ ((Below.refl _ _).drew) | exact KS.out _ (below_drewal _ _) | exact KS.out _ (Below.trans (And.left (by assumption)) (Below.mono (by assumption) (Below.size (And.left (by assumption))))) | exact KS.out _ (Below.trans (And.left (by assumption)) (Below.mono (below_alloc _ _) (Below.size (And.left (by assumption))))))
    (first
      | (go_at_call 11; (first
          | ((with_reducible refine (HM1.out _ ?_).mono ?_); (go_split_ands; assumption); rintro x w1 ⟨g1, rfl, hi1, hb1⟩; have HI1 := Lib.hid hi1; clear hi1)
          | ((with_reducible refine (HM2.out _ _ ?_ ?_).mono ?_); (go_split_ands; assumption); (first | with_reducible exact at_laidn (by simp) | with_reducible exact (at_laidn (by simp)).below (below_alloc _ _)); rintro x w2 ⟨g2, rfl, hi2, hb2⟩; have HI2 := Lib.hid hi2; clear hi2)
          | ((with_reducible refine (HM3.out _ ?_).mono ?_); (go_split_ands; assumption); rintro x w3 ⟨g3, rfl, hi3, hb3⟩; clear hi3)))
      | (go_at_call 20; (first
          | ((with_reducible refine (HS.out _ 3 _ _ [1, -1, -1] (by decide) ?_ ?_).mono ?_); (first | with_reducible exact HI1.out | with_reducible exact HI1.out.below (below_alloc _ _)); (first | with_reducible exact il3n (by simp) | with_reducible exact (il3n (by simp)).below hb1 | with_reducible exact (il3d (by simp)).below hb1 | with_reducible exact (il3e (by simp)).below hb1); rintro x w4 ⟨rfl, hb4⟩)
          | ((with_reducible refine (HS.out _ 2 _ _ [0, -1] (by decide) ?_ ?_).mono ?_); (first | with_reducible exact HI2.out | with_reducible exact HI2.out.below (below_alloc _ _)); (first | with_reducible exact il2n (by simp) | with_reducible exact (il2n (by simp)).below hb2 | with_reducible exact ((il2n (by simp)).below (below_alloc _ _)).below hb2); rintro x w5 ⟨rfl, hb5⟩))))
  all_goals
    have HF := Lib.hid (HAL.out.low.trans (Below.mono (And.left (by assumption : (fun W => Below W0.heap.size W0 W ∧ W.cell? ⟨a, 0, none⟩ = some (.string ⟨#[107, 58, 120]⟩) ∧ W.cell? ⟨a, 1, none⟩ = some (.int .u8 1) ∧ W.cell? ⟨a, 2, none⟩ = some (.string ⟨#[]⟩) ∧ W.cell? ⟨a, 3, none⟩ = some (.int .u8 0) ∧ W.cell? ⟨a, 4, none⟩ = some (.int .i64 0) ∧ W.cell? ⟨a, 5, none⟩ = some (.string ⟨#[]⟩) ∧ W.cell? ⟨a, 6, none⟩ = some (.slice none 0 0) ∧ W.cell? ⟨a, 7, none⟩ = some (.slice none 0 0) ∧ W.cell? ⟨a, 8, none⟩ = some (.int .u8 0) ∧ W.cell? ⟨a, 9, none⟩ = some (.string ⟨#[]⟩) ∧ W.cell? ⟨a, 10, none⟩ = some (.bool false)) _)) HAL.out.low.size))
    go_wp2_with fail
    go_ret
    exact ⟨rfl, HF.out⟩
end Go.Proofs.YtpmkkgndpfbkdaaDoor
