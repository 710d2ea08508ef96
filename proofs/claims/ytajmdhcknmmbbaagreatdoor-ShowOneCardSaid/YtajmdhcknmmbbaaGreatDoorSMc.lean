/-
  Walks: the reader of documents' texts: number, value.
  Conditions: the reader lies as 'RD' says; its text is no longer than Go lets a row of bytes be; the library's tables hold what the program's text lays in them.
  Walks: the reader of documents' texts: a value of an attribute.
  Conditions: the reader lies as 'RD' says; its text is no longer than Go lets a row of bytes be; the library's tables hold what the program's text lays in them.
  Rows of their own in the making: append, one thing more. Walks: the reader of documents' texts: attributes.
  Conditions: the reader lies as 'RD' says; its text has 1073741824 bytes at most; the library's tables hold what the program's text lays in them.
-/
import Derived.Test.YtajmdhcknmmbbaaGreatDoorSMb
import Derived.Shelf.Strings.SlTrimAscii
import Derived.Deep.RegionHeld3
import Derived.Lib.LaidTab
import Derived.Lib.AppendIntMem
namespace Go.Proofs.YtajmdhcknmmbbaaGreatDoor.Sh
set_option linter.unusedVariables false
set_option linter.unusedSimpArgs false
open Go.Proofs.YtajmdhcknmmbbaaGreatDoor Go.RowKit Go.Deep

theorem varBelow {P : Program} {B g : Nat} {W W' : World} {n : String} {cs : Array Value} (h : Below B W W') (hg : P.globalNamed n = some g) (hgB : g < B) (hv : W.var? P n = some cs) : W'.var? P n = some cs := by
  simp only [World.var?, hg, Option.bind_some] at hv ⊢
  rw [h.block g hgB]; exact hv
theorem varLt {P : Program} {g : Nat} {W : World} {n : String} {cs : Array Value} (hg : P.globalNamed n = some g) (hv : W.var? P n = some cs) : g < W.heap.size := by
  rcases Nat.lt_or_ge g W.heap.size with h' | h'
  · exact h'
  · simp [World.var?, hg, Array.getElem?_eq_none h'] at hv
theorem gnPow : Tryz.prog.globalNamed "internal/strconv.uint64pow10" = some 2 := by kernel_rfl
theorem gnSyn : Tryz.prog.globalNamed "strconv.ErrSyntax" = some 3 := by kernel_rfl
theorem gnRan : Tryz.prog.globalNamed "strconv.ErrRange" = some 4 := by kernel_rfl
/-- What the package's variables hold that a number's reading reads. -/
def STabs (w : World) : Prop := (∃ t p, w.var? Tryz.prog "strconv.ErrSyntax" = some #[.iface t p]) ∧ ∃ t p, w.var? Tryz.prog "strconv.ErrRange" = some #[.iface t p]
theorem STabs.below {w w' : World} (h : STabs w) (hb : Below w.heap.size w w') : STabs w' := by
  obtain ⟨⟨t, p, h2⟩, t', p', h3⟩ := h
  exact ⟨⟨t, p, varBelow hb gnSyn (varLt gnSyn h2) h2⟩, t', p', varBelow hb gnRan (varLt gnRan h3) h3⟩

/-- What ParseInt comes to. -/
def PInt (v : Lib.NumEnd Int) (W : World) (e : Ending) (W' : World) : Prop :=
  match v with
  | .ok v => e = .returned (.tuple #[.int .i64 v, .nilIface]) ∧ Below W.heap.size W W'
  | _ => ∃ N n, e = .returned (.tuple #[.int .i64 n, .iface 299 (.pointer (some ⟨N, 0, none⟩))]) ∧ Below W.heap.size W W'
theorem parseInt_any (x : ByteArray) (W : World) (hx : x.size ≤ 140737488355328) (ht : STabs W) :
    Calls Tryz.prog 216 #[.string x, .int .i64 10, .int .i64 64] W (PInt (Lib.parseIntB 64 x.data.toList) W) := by
  rcases hp : Lib.parseIntB 64 x.data.toList with v | _ | _
  · exact (Any.strconv_ParseInt_10_at64_ok Tryz.laysC174 x (by omega) v hp W).mono fun e w' h => ⟨h.1, by
      rcases h.2 with rfl | ⟨t, rfl⟩
      · exact Below.refl _ _
      · exact Lib.bytesWorld_below _ _ _⟩
  · obtain ⟨t, p, hv⟩ := ht.1
    exact (Any.strconv_ParseInt_10_at64_syntax_var Tryz.laysC174 x (by omega) hp t p W hv).mono fun e w' h => by obtain ⟨N, h1, -, -, h4⟩ := h; exact ⟨N, _, h1, h4⟩
  · obtain ⟨t, p, hv⟩ := ht.2
    exact (Any.strconv_ParseInt_10_at64_range_var Tryz.laysC174 x (by omega) hp t p W hv).mono fun e w' h => by obtain ⟨N, h1, -, -, h4⟩ := h; exact ⟨N, _, h1, h4⟩
theorem trimLeft_any (s : ByteArray) (w : World) :
    Calls Tryz.prog 215 #[.string s, .string ⟨#[45, 48, 49, 50, 51, 52, 53, 54, 55, 56, 57]⟩] w fun e w' => e = .returned (.string ⟨(Lib.trimLeftS s.data.toList numC).toArray⟩) ∧ Below w.heap.size w w' :=
  Any.strings_TrimLeft_laid Tryz.lays161 (by kernel_rfl) s ⟨#[45, 48, 49, 50, 51, 52, 53, 54, 55, 56, 57]⟩ w (by decide) (ascii_of_all (by decide))

theorem numR_no {r : Str} (hv : ∀ x, ¬ Lib.parseIntB 64 (r.take (r.length - (Lib.trimLeftS r numC).length)) = .ok x) : numR r = none := by
  unfold numR
  split
  · rename_i x hx
    exact absurd hx (hv x)
  · rfl
def FNum (x : Int) (v : Value) (_ : World) : Prop := v = .int .i64 x

set_option maxRecDepth 100000 in
set_option maxHeartbeats 4000000 in
theorem number_any {w0 : World} {R : Nat} {r : Str} {W : World} (h : RD w0 R r W) (hl : r.length ≤ 140737488355328) (ht : STabs w0) :
    Calls Tryz.prog 200 #[rp R] W (PostV w0 R W FNum (numR r)) := by
  obtain ⟨k, hk⟩ : ∃ k, r.length - (Lib.trimLeftS r numC).length = k := ⟨_, rfl⟩
  have hm := trimL_le r numC
  have hP : ∀ w, Below w0.heap.size w0 w → Calls Tryz.prog 216 #[.string ((⟨r.toArray⟩ : ByteArray).extract 0 k), .int .i64 10, .int .i64 64] w (PInt (Lib.parseIntB 64 (r.take k)) w) := fun w hb => by
    rw [ba_take]
    have := parseInt_any ⟨(r.take k).toArray⟩ w (by rw [ba_size, List.length_take]; omega) (ht.below hb)
    rwa [ba_list] at this
  have HT : Hid (∀ w, Calls Tryz.prog 215 #[.string ⟨r.toArray⟩, .string ⟨#[45, 48, 49, 50, 51, 52, 53, 54, 55, 56, 57]⟩] w fun e w' => e = .returned (.string ⟨(Lib.trimLeftS r numC).toArray⟩) ∧ Below w.heap.size w w') := Lib.hid fun w => by
    have := trimLeft_any ⟨r.toArray⟩ w
    rwa [ba_list] at this
  have hsz := ba_size r
  have hbz := ba_size (Lib.trimLeftS r numC)
  have HX : Hid (∀ W', RD w0 R r W' → W'.cell? ⟨R, 0, none⟩ = some (.string ⟨r.toArray⟩) ∧ W'.frozen? ⟨R, 0, none⟩ = false) := Lib.hid fun W' h' => h'.cells
  obtain ⟨post, hpost⟩ : ∃ p, PostV w0 R W FNum (numR r) = p := ⟨_, rfl⟩
  rw [hpost]
  have hq1 : ∀ v, Lib.parseIntB 64 (r.take k) = .ok v → numR r = some (v, Lib.trimLeftS r numC) := fun v h => by rw [numR, hk, h]
  have HB : Hid (∀ w', numR r = none → Kp (· = R) W w' → post (.panicked [pz]) w') := Lib.hid fun w' h1 h2 => by rw [← hpost, h1]; exact ⟨rfl, h2⟩
  have HO : Hid (∀ v w', numR r = some (v, Lib.trimLeftS r numC) → RD w0 R r w' → Kp (· = R) W w' → post (.returned (.int .i64 v)) (w'.setCell ⟨R, 0, none⟩ (.string ⟨(Lib.trimLeftS r numC).toArray⟩))) := Lib.hid fun v w' h1 h2 h3 => by rw [← hpost, h1]; exact ⟨_, rfl, rfl, h2.setR _, h3.set (.inr rfl) 0 _⟩
  have HP := Lib.hid hP
  have HC := Lib.hid h
  obtain ⟨c0, f0⟩ := h.cells
  have hg1 : (0 : Int) ≤ (k : Int) := by omega
  have hg2 : (k : Int) ≤ (r.length : Int) := by omega
  have hw : IntKind.i64.wrap (((⟨r.toArray⟩ : ByteArray).size : Int) - ((⟨(Lib.trimLeftS r numC).toArray⟩ : ByteArray).size : Int)) = (k : Int) := by
    rw [hsz, hbz, IntWalk.i64_in _ (by omega)]; omega
  clear hpost h hP
  have hg2' : (k : Int) ≤ ((⟨r.toArray⟩ : ByteArray).size : Int) := by rw [hsz]; exact hg2
  generalize (⟨(Lib.trimLeftS r numC).toArray⟩ : ByteArray) = sb at HT HO hbz hw
  generalize (⟨r.toArray⟩ : ByteArray) = s at HT HX HP hsz c0 hw hg2'
  clear hsz hbz hg2 hm
  rcases hv : Lib.parseIntB 64 (r.take k) with v | _ | _
  · have HN := Lib.hid (hq1 v hv)
    rw [hv] at HP
    clear hq1 hv hk
    go_enter Tryz.func200, Tryz.ntmps200
    go_upto_region 2 with (go_at_call 215; (with_reducible refine (HT.out _).mono ?_); rintro e1 w1 ⟨rfl, hb1⟩)
    have hr1 := HC.out.keep hb1
    obtain ⟨c1, f1⟩ := HX.out _ hr1
    have HR1 := Lib.hid hr1
    have HB1 := Lib.hid hb1
    have HD1 : Hid (Below w0.heap.size w0 w1.drew) := Lib.hid (hr1.low.trans ⟨rfl, rfl, rfl, Nat.le_refl _, fun _ _ => rfl⟩)
    have hd1 : w1.drew.cell? ⟨R, 0, none⟩ = some (.string s) := c1
    have HS2 : Hid (∀ w2, Below w1.drew.heap.size w1.drew w2 → w2.cell? ⟨R, 0, none⟩ = some (.string s) ∧ w2.frozen? ⟨R, 0, none⟩ = false ∧ RD w0 R r w2 ∧ Kp (· = R) W w2) := Lib.hid fun w2 h => by
      have h2 : RD w0 R r w2 := (hr1.keep (W' := w1.drew) ⟨rfl, rfl, rfl, Nat.le_refl _, fun _ _ => rfl⟩).keep h
      exact ⟨(HX.out _ h2).1, (HX.out _ h2).2, h2, ((Kp.of_below hb1).drew).below h⟩
    clear hr1 hb1
    go_region_held3 (fun W' => W'.cell? ⟨R, 0, none⟩ = some (.string s))
      (first | with_reducible exact hd1 | with_reducible exact hd2)
      (first
        | (go_at_call 216; (with_reducible refine (HP.out _ HD1.out).mono ?_); rintro e2 w2 ⟨rfl, hb2⟩; obtain ⟨hd2, f2, g2, k2⟩ := HS2.out _ hb2))
    go_wp2_with fail
    exact HO.out v w2 HN.out g2 k2
  · have HN := Lib.hid (numR_no (r := r) (fun x h => by rw [hk, hv] at h; cases h))
    rw [hv] at HP
    clear hq1 hv hk
    go_enter Tryz.func200, Tryz.ntmps200
    go_upto_region 2 with (go_at_call 215; (with_reducible refine (HT.out _).mono ?_); rintro e1 w1 ⟨rfl, hb1⟩)
    have hr1 := HC.out.keep hb1
    obtain ⟨c1, f1⟩ := HX.out _ hr1
    have HR1 := Lib.hid hr1
    have HB1 := Lib.hid hb1
    have HD1 : Hid (Below w0.heap.size w0 w1.drew) := Lib.hid (hr1.low.trans ⟨rfl, rfl, rfl, Nat.le_refl _, fun _ _ => rfl⟩)
    have hd1 : w1.drew.cell? ⟨R, 0, none⟩ = some (.string s) := c1
    have HS2 : Hid (∀ w2, Below w1.drew.heap.size w1.drew w2 → w2.cell? ⟨R, 0, none⟩ = some (.string s) ∧ w2.frozen? ⟨R, 0, none⟩ = false ∧ RD w0 R r w2 ∧ Kp (· = R) W w2) := Lib.hid fun w2 h => by
      have h2 : RD w0 R r w2 := (hr1.keep (W' := w1.drew) ⟨rfl, rfl, rfl, Nat.le_refl _, fun _ _ => rfl⟩).keep h
      exact ⟨(HX.out _ h2).1, (HX.out _ h2).2, h2, ((Kp.of_below hb1).drew).below h⟩
    clear hr1 hb1
    go_region_held3 (fun W' => W'.cell? ⟨R, 0, none⟩ = some (.string s))
      (first | with_reducible exact hd1 | with_reducible exact hd2)
      (first
        | (go_at_call 216; (with_reducible refine (HP.out _ HD1.out).mono ?_); rintro e2 w2 ⟨N2, n2, rfl, hb2⟩; obtain ⟨hd2, f2, g2, k2⟩ := HS2.out _ hb2))
    go_wp2_with fail
    exact ⟨rfl, HB.out _ HN.out k2⟩
  · have HN := Lib.hid (numR_no (r := r) (fun x h => by rw [hk, hv] at h; cases h))
    rw [hv] at HP
    clear hq1 hv hk
    go_enter Tryz.func200, Tryz.ntmps200
    go_upto_region 2 with (go_at_call 215; (with_reducible refine (HT.out _).mono ?_); rintro e1 w1 ⟨rfl, hb1⟩)
    have hr1 := HC.out.keep hb1
    obtain ⟨c1, f1⟩ := HX.out _ hr1
    have HR1 := Lib.hid hr1
    have HB1 := Lib.hid hb1
    have HD1 : Hid (Below w0.heap.size w0 w1.drew) := Lib.hid (hr1.low.trans ⟨rfl, rfl, rfl, Nat.le_refl _, fun _ _ => rfl⟩)
    have hd1 : w1.drew.cell? ⟨R, 0, none⟩ = some (.string s) := c1
    have HS2 : Hid (∀ w2, Below w1.drew.heap.size w1.drew w2 → w2.cell? ⟨R, 0, none⟩ = some (.string s) ∧ w2.frozen? ⟨R, 0, none⟩ = false ∧ RD w0 R r w2 ∧ Kp (· = R) W w2) := Lib.hid fun w2 h => by
      have h2 : RD w0 R r w2 := (hr1.keep (W' := w1.drew) ⟨rfl, rfl, rfl, Nat.le_refl _, fun _ _ => rfl⟩).keep h
      exact ⟨(HX.out _ h2).1, (HX.out _ h2).2, h2, ((Kp.of_below hb1).drew).below h⟩
    clear hr1 hb1
    go_region_held3 (fun W' => W'.cell? ⟨R, 0, none⟩ = some (.string s))
      (first | with_reducible exact hd1 | with_reducible exact hd2)
      (first
        | (go_at_call 216; (with_reducible refine (HP.out _ HD1.out).mono ?_); rintro e2 w2 ⟨N2, n2, rfl, hb2⟩; obtain ⟨hd2, f2, g2, k2⟩ := HS2.out _ hb2))
    go_wp2_with fail
    exact ⟨rfl, HB.out _ HN.out k2⟩
end Go.Proofs.YtajmdhcknmmbbaaGreatDoor.Sh
namespace Go.Proofs.YtajmdhcknmmbbaaGreatDoor.Sh
set_option linter.unusedVariables false
set_option linter.unusedSimpArgs false
open Go.Proofs.YtajmdhcknmmbbaaGreatDoor Go.RowKit Go.Deep

def PV.k : PV → Int
  | .num _ => 1
  | .tru _ => 2
  | .txt _ => 3
def PV.n : PV → Int
  | .num n => n
  | .tru b => if b then 1 else 0
  | .txt _ => 0
def PV.s : PV → Str
  | .txt s => s
  | _ => []
/-- The cells of such a value. -/
def PV.cells (v : PV) : List Value := [.int .u8 v.k, .int .i64 v.n, .string ⟨v.s.toArray⟩, .slice none 0 0, .slice none 0 0, .int .u8 0, .string ⟨#[]⟩, .bool false]
def FVal (x : PV) (v : Value) (_ : World) : Prop := v = .agg x.cells.toArray
abbrev zeroV : Array Value := #[.int .u8 0, .int .i64 0, .string ⟨#[]⟩, .slice none 0 0, .slice none 0 0, .int .u8 0, .string ⟨#[]⟩, .bool false]
theorem size_val : (Tryz.prog.info? 66).map (·.size) = some 8 := by kernel_rfl
theorem kp_blk {X : Nat → Prop} {a b : World} {g : Nat} {o : Obj} (h : Kp X a b) (hg : ¬ X g) (e : a.heap[g]? = some o) : b.heap[g]? = some o := by
  rw [h.block g (tr_lt_of_block e) hg, e]

set_option maxRecDepth 100000 in
set_option maxHeartbeats 4000000 in
theorem value_any {w0 : World} {R : Nat} {r : Str} {W : World} (h : RD w0 R r W) (hl : r.length ≤ 140737488355328) (ht : STabs w0) :
    Calls Tryz.prog 179 #[rp R] W (PostV w0 R W FVal (valueR r)) := by
  obtain ⟨W0, hW0⟩ : ∃ W0, W.alloc (.cells zeroV 66) = W0 := ⟨_, rfl⟩
  have hlt := h.lt
  have HR0 : Hid (RD w0 R r W0) := Lib.hid (by rw [← hW0]; exact h.alloc _)
  have HG0 : Hid (Kp (· = R) W W0) := Lib.hid (by rw [← hW0]; exact (Kp.refl _ W).alloc _)
  have HK0 : Hid (W0.heap[W.heap.size]? = some (.cells zeroV 66 (0, 0))) := Lib.hid (by rw [← hW0]; exact heap_alloc_new _ _)
  have HZ0 : Hid (W0.heap.size = W.heap.size + 1) := Lib.hid (by rw [← hW0]; simp)
  obtain ⟨c0, f0⟩ := HR0.out.cells
  have HH := Lib.hid (Tryz.strings_HasPrefix ⟨r.toArray⟩ ⟨#[34]⟩)
  obtain ⟨post, hpost⟩ : ∃ p, PostV w0 R W FVal (valueR r) = p := ⟨_, rfl⟩
  rw [hpost]
  have HB : Hid (∀ w', valueR r = none → Kp (· = R) W w' → post (.panicked [pz]) w') := Lib.hid fun w' h1 h2 => by rw [← hpost, h1]; exact ⟨rfl, h2⟩
  have HO : Hid (∀ x r' w', valueR r = some (x, r') → RD w0 R r' w' → Kp (· = R) W w' → post (.returned (.agg x.cells.toArray)) (w'.setRow W.heap.size x.cells.toArray)) := Lib.hid fun x r' w' h1 h2 h3 => by
    rw [← hpost, h1]; exact ⟨_, rfl, rfl, h2.row (by omega) (by have := h2.base; omega) _, h3.row (.inl (Nat.le_refl _)) _⟩
  clear hpost h
  cases h1 : Lib.hasPrefix r [34] with
  | true =>
    have hv : valueR r = (quotedR r).map fun x => (.txt x.1, x.2) := by rw [valueR, if_pos h1]
    have HP : Hid (Lib.hasPrefix (⟨r.toArray⟩ : ByteArray).data.toList (⟨#[34]⟩ : ByteArray).data.toList = true) := Lib.hid (by rw [ba_list]; exact h1)
    have HQ := Lib.hid (quoted_any HR0.out hl)
    clear h1
    generalize (⟨r.toArray⟩ : ByteArray) = s at HH HP c0
    cases hq : quotedR r with
    | none =>
      rw [hq] at HQ
      have HN : Hid (valueR r = none) := Lib.hid (by rw [hv, hq]; rfl)
      clear hv hq
      go_enter Tryz.func179, Tryz.ntmps179
      go_wp2_with (first
        | (go_at_call 134; (with_reducible refine (HH.out _).mono ?_); rw [HP.out]; rintro e1 w1 ⟨rfl, rfl⟩)
        | (go_at_call 158; (with_reducible refine HQ.out.mono ?_); rintro e2 w2 ⟨rfl, hk2⟩))
      exact ⟨rfl, HB.out _ HN.out (HG0.out.trans hk2)⟩
    | some x =>
      obtain ⟨t, r2⟩ := x
      rw [hq] at HQ
      have HN : Hid (valueR r = some (.txt t, r2)) := Lib.hid (by rw [hv, hq]; rfl)
      clear hv hq
      go_enter Tryz.func179, Tryz.ntmps179
      go_wp2_with (first
        | (go_at_call 134; (with_reducible refine (HH.out _).mono ?_); rw [HP.out]; rintro e1 w1 ⟨rfl, rfl⟩)
        | (go_at_call 158; (with_reducible refine HQ.out.mono ?_); rintro e2 w2 ⟨v2, rfl, rfl, g2, hk2⟩)
        | (refine wpList_store_row rfl 66 _ _ rfl W.heap.size _ rfl rfl 66 zeroV (kp_blk hk2 (by omega) HK0.out) size_val rfl (by simp [Value.oneCell']) ?_))
      refine bodyPost_ret (results_cell_row Tryz.results179 _ _ W.heap.size 66 _ (0, 0) _ rfl (setRow_heap _ _ _ _ _ _ (kp_blk hk2 (by omega) HK0.out)) Tryz.underlying66 rfl size_val) rfl ?_
      exact HO.out (.txt t) r2 w2 HN.out g2 (HG0.out.trans hk2)
  | false =>
    have HP : Hid (Lib.hasPrefix (⟨r.toArray⟩ : ByteArray).data.toList (⟨#[34]⟩ : ByteArray).data.toList = false) := Lib.hid (by rw [ba_list]; exact h1)
    generalize (⟨r.toArray⟩ : ByteArray) = s at HH HP c0
    cases h2 : Lib.hasPrefix r [121, 101, 115] with
    | true =>
      have HN : Hid (valueR r = some (.tru true, Lib.trimPrefix r [121, 101, 115])) := Lib.hid (by rw [valueR, if_neg (by rw [h1]; exact Bool.false_ne_true), if_pos h2, trim_yes h2]; rfl)
      clear h1
      go_enter Tryz.func179, Tryz.ntmps179
      go_wp2_with (first
        | (go_at_call 134; (with_reducible refine (HH.out _).mono ?_); rw [HP.out]; rintro e1 w1 ⟨rfl, rfl⟩)
        | (go_at_call 135; (with_reducible refine (is_any HR0.out ⟨#[121, 101, 115]⟩).mono ?_); rw [show Lib.hasPrefix r (⟨#[121, 101, 115]⟩ : ByteArray).data.toList = true from h2]; rintro e2 w2 ⟨rfl, g2, hk2⟩)
        | (refine wpList_store_row rfl 66 _ _ rfl W.heap.size _ rfl rfl 66 zeroV (kp_blk hk2 (by omega) HK0.out) size_val rfl (by simp [Value.oneCell']) ?_))
      refine bodyPost_ret (results_cell_row Tryz.results179 _ _ W.heap.size 66 _ (0, 0) _ rfl (setRow_heap _ _ _ _ _ _ (kp_blk hk2 (by omega) HK0.out)) Tryz.underlying66 rfl size_val) rfl ?_
      exact HO.out (.tru true) _ w2 HN.out g2 (HG0.out.trans hk2)
    | false =>
      cases h3 : Lib.hasPrefix r [110, 111] with
      | true =>
        have HN : Hid (valueR r = some (.tru false, Lib.trimPrefix r [110, 111])) := Lib.hid (by rw [valueR, if_neg (by rw [h1]; exact Bool.false_ne_true), if_neg (by rw [h2]; exact Bool.false_ne_true), if_pos h3, trim_yes h3]; rfl)
        clear h1
        go_enter Tryz.func179, Tryz.ntmps179
        go_wp2_with (first
          | (go_at_call 134; (with_reducible refine (HH.out _).mono ?_); rw [HP.out]; rintro e1 w1 ⟨rfl, rfl⟩)
          | (go_at_call 135; (with_reducible refine (is_any HR0.out ⟨#[121, 101, 115]⟩).mono ?_); rw [show Lib.hasPrefix r (⟨#[121, 101, 115]⟩ : ByteArray).data.toList = false from h2, show Lib.trimPrefix r (⟨#[121, 101, 115]⟩ : ByteArray).data.toList = r from trim_no h2]; rintro e2 w2 ⟨rfl, g2, hk2⟩)
          | (go_at_call 135; (with_reducible refine (is_any g2 ⟨#[110, 111]⟩).mono ?_); rw [show Lib.hasPrefix r (⟨#[110, 111]⟩ : ByteArray).data.toList = true from h3]; rintro e3 w3 ⟨rfl, g3, hk3⟩)
          | (refine wpList_store_row rfl 66 _ _ rfl W.heap.size _ rfl rfl 66 zeroV (kp_blk (hk2.trans hk3) (by omega) HK0.out) size_val rfl (by simp [Value.oneCell']) ?_))
        refine bodyPost_ret (results_cell_row Tryz.results179 _ _ W.heap.size 66 _ (0, 0) _ rfl (setRow_heap _ _ _ _ _ _ (kp_blk (hk2.trans hk3) (by omega) HK0.out)) Tryz.underlying66 rfl size_val) rfl ?_
        exact HO.out (.tru false) _ w3 HN.out g3 ((HG0.out.trans hk2).trans hk3)
      | false =>
        have hv : valueR r = (numR r).map fun x => (.num x.1, x.2) := by rw [valueR, if_neg (by rw [h1]; exact Bool.false_ne_true), if_neg (by rw [h2]; exact Bool.false_ne_true), if_neg (by rw [h3]; exact Bool.false_ne_true)]
        clear h1
        cases hq : numR r with
        | none =>
          have HN : Hid (valueR r = none) := Lib.hid (by rw [hv, hq]; rfl)
          clear hv
          go_enter Tryz.func179, Tryz.ntmps179
          go_wp2_with (first
            | (go_at_call 134; (with_reducible refine (HH.out _).mono ?_); rw [HP.out]; rintro e1 w1 ⟨rfl, rfl⟩)
            | (go_at_call 135; (with_reducible refine (is_any HR0.out ⟨#[121, 101, 115]⟩).mono ?_); rw [show Lib.hasPrefix r (⟨#[121, 101, 115]⟩ : ByteArray).data.toList = false from h2, show Lib.trimPrefix r (⟨#[121, 101, 115]⟩ : ByteArray).data.toList = r from trim_no h2]; rintro e2 w2 ⟨rfl, g2, hk2⟩)
            | (go_at_call 135; (with_reducible refine (is_any g2 ⟨#[110, 111]⟩).mono ?_); rw [show Lib.hasPrefix r (⟨#[110, 111]⟩ : ByteArray).data.toList = false from h3, show Lib.trimPrefix r (⟨#[110, 111]⟩ : ByteArray).data.toList = r from trim_no h3]; rintro e3 w3 ⟨rfl, g3, hk3⟩)
            | (go_at_call 200; (with_reducible refine (number_any g3 hl ht).mono ?_); rw [hq]; rintro e4 w4 ⟨rfl, hk4⟩))
          exact ⟨rfl, HB.out _ HN.out (((HG0.out.trans hk2).trans hk3).trans hk4)⟩
        | some x =>
          obtain ⟨n, r2⟩ := x
          have HN : Hid (valueR r = some (.num n, r2)) := Lib.hid (by rw [hv, hq]; rfl)
          clear hv
          go_enter Tryz.func179, Tryz.ntmps179
          go_wp2_with (first
            | (go_at_call 134; (with_reducible refine (HH.out _).mono ?_); rw [HP.out]; rintro e1 w1 ⟨rfl, rfl⟩)
            | (go_at_call 135; (with_reducible refine (is_any HR0.out ⟨#[121, 101, 115]⟩).mono ?_); rw [show Lib.hasPrefix r (⟨#[121, 101, 115]⟩ : ByteArray).data.toList = false from h2, show Lib.trimPrefix r (⟨#[121, 101, 115]⟩ : ByteArray).data.toList = r from trim_no h2]; rintro e2 w2 ⟨rfl, g2, hk2⟩)
            | (go_at_call 135; (with_reducible refine (is_any g2 ⟨#[110, 111]⟩).mono ?_); rw [show Lib.hasPrefix r (⟨#[110, 111]⟩ : ByteArray).data.toList = false from h3, show Lib.trimPrefix r (⟨#[110, 111]⟩ : ByteArray).data.toList = r from trim_no h3]; rintro e3 w3 ⟨rfl, g3, hk3⟩)
            | (go_at_call 200; (with_reducible refine (number_any g3 hl ht).mono ?_); rw [hq]; rintro e4 w4 ⟨v4, rfl, rfl, g4, hk4⟩)
            | (refine wpList_store_row rfl 66 _ _ rfl W.heap.size _ rfl rfl 66 zeroV (kp_blk ((hk2.trans hk3).trans hk4) (by omega) HK0.out) size_val rfl (by simp [Value.oneCell']) ?_))
          refine bodyPost_ret (results_cell_row Tryz.results179 _ _ W.heap.size 66 _ (0, 0) _ rfl (setRow_heap _ _ _ _ _ _ (kp_blk ((hk2.trans hk3).trans hk4) (by omega) HK0.out)) Tryz.underlying66 rfl size_val) rfl ?_
          exact HO.out (.num n) _ w4 HN.out g4 (((HG0.out.trans hk2).trans hk3).trans hk4)
end Go.Proofs.YtajmdhcknmmbbaaGreatDoor.Sh
namespace Go.Proofs.YtajmdhcknmmbbaaGreatDoor.Sh
set_option linter.unusedVariables false
set_option linter.unusedSimpArgs false
open Go.Proofs.YtajmdhcknmmbbaaGreatDoor Go.RowKit Go.Deep

theorem grow_al {a b : World} {O : Obj} {row : Option Nat} (h : (a.alloc O).grownBy b row) : a.grownBy b row :=
  have k := World.grownBy_alloc a O row
  ⟨h.os.trans k.os, h.tape.trans k.tape, h.output.trans k.output, Nat.le_trans k.size h.size, fun i hi hne => (h.block i (Nat.lt_of_lt_of_le hi k.size) hne).trans (k.block i hi hne)⟩
theorem cells_at_new {w : World} {cs : List Value} {T : TypeId} : ∀ (j : Nat) (u : Value), cs[j]? = some u → (w.alloc (.cells cs.toArray T)).cell? ((⟨w.heap.size, 0, none⟩ : Addr).add j) = some u := by
  intro j u hu
  have e : ((⟨w.heap.size, 0, none⟩ : Addr).add j) = ⟨w.heap.size, j, none⟩ := by
    simp only [Addr.add]
    split <;> simp_all
  rw [e, Lib.cell_of_heap (heap_alloc_new w _)]
  simpa using hu

theorem own_baseP {W : World} {b b' n sz : Nat} {T : TypeId} {v : Value} {xs : List Value} (hb : b ≤ b') (h : W.ownsRow b' T sz v n xs) : W.ownsRow b T sz v n xs := by
  refine ⟨h.1, ?_⟩
  rcases h.2 with h0 | ⟨g, cap, cur, e, hbase, rest⟩
  · exact .inl h0
  · exact .inr ⟨g, cap, cur, e, Nat.le_trans hb hbase, rest⟩
theorem append_twoP {P : Program} (w : World) (base : Nat) (t ty e : TypeId) (i : TypeInfo) (z : Value) (size bytes : Nat) (ht : P.underlying t = some (.slice e)) (hi : P.info? e = some i) (hz : i.zero = some z)
    (hsize : i.size = size) (hby : i.bytes = bytes) (hzs : z.cells.size = size) (hsz : 0 < size)
    (v : Value) (n : Nat) (xs : List Value) (hown : w.ownsRow base e size v n xs)
    (a : Addr) (m c : Nat) (news : List Value) (hl : news.length = m * size) (hnews : ∀ j u, news[j]? = some u → w.cell? (a.add j) = some u) (h1 : ∀ u ∈ news, u.oneCell' = true) (hm : 0 < m)
    (h63 : n + m ≤ maxLen) (hbytes : (n + m) * bytes ≤ 140737488355328) (hbase : base ≤ w.heap.size) :
    ∃ v' w', (Builtin.append_ #[t, t] ty #[v, .slice (some a) m c]).run P w = .ok v' w' ∧ w'.ownsRow base e size v' (n + m) (xs ++ news) ∧
      ((∃ g cap, v = .slice (some ⟨g, 0, none⟩) n cap ∧ v' = .slice (some ⟨g, 0, none⟩) (n + m) cap ∧ w.grownBy w' (some g)) ∨ (w.grownBy w' none ∧ ∃ g cap, v' = .slice (some ⟨g, 0, none⟩) (n + m) cap ∧ w.heap.size ≤ g)) := by
  rcases hown.2 with ⟨hv, hn⟩ | ⟨g, cap, cur, hv, hbg, hg, hnc, hcm, hcs, htake⟩
  · have h0 : w.ownsRow w.heap.size e size v n xs := ⟨hown.1, .inl ⟨hv, hn⟩⟩
    obtain ⟨v', w', hr, h2, h3, -⟩ := run_append_own (P := P) w w.heap.size t ty e i z size bytes ht hi hz hsize hby hzs hsz v n xs h0 a m c news hl hnews h1 h63 hbytes (Nat.le_refl _)
    refine ⟨v', w', hr, own_baseP hbase h2, .inr ⟨by rw [hv] at h3; exact h3, ?_⟩⟩
    rcases h2.2 with ⟨-, e0⟩ | ⟨g, cap, cur, e0, e1, -⟩
    · omega
    · exact ⟨g, cap, e0, e1⟩
  · subst hv
    obtain ⟨v', w', hr, h2, h3, -⟩ := run_append_own (P := P) w base t ty e i z size bytes ht hi hz hsize hby hzs hsz _ n xs hown a m c news hl hnews h1 h63 hbytes hbase
    refine ⟨v', w', hr, h2, ?_⟩
    by_cases hroom : n + m ≤ cap
    · left
      have hfit : n * i.size + news.length ≤ cur.size := by rw [hl, hcs, hsize, ← Nat.add_mul]; exact Nat.mul_le_mul_right _ hroom
      have hr2 := run_append_room (P := P) w t ty e i ht hi g n cap cur hg a m c news (by rw [hsize]; exact hl) hnews h1 hroom hfit
      have he := hr.symm.trans hr2
      simp only [Result.ok.injEq] at he
      exact ⟨g, cap, rfl, he.1, by simpa [Value.ownBlock] using h3⟩
    · right
      have holds : ∀ j u, xs[j]? = some u → w.cell? ((⟨g, 0, none⟩ : Addr).add j) = some u := hown.cells (g := g) rfl
      have hr2 := run_append_grow (P := P) w t ty e i z ht hi hz ⟨g, 0, none⟩ n cap xs (by rw [hsize]; exact hown.1) holds a m c news (by rw [hsize]; exact hl) hnews (by omega) (by unfold maxLen at h63; omega) (by rw [hby]; exact growslice_fits (by omega) hbytes)
      have he := hr.symm.trans hr2
      simp only [Result.ok.injEq] at he
      obtain ⟨e1, e2⟩ := he
      subst e1 e2
      refine ⟨⟨rfl, rfl, rfl, by simp, fun k hk _ => ?_⟩, _, _, rfl, Nat.le_refl _⟩
      exact Below.heap_alloc w.drew _ k hk


/-- append, one thing more: its cells lie in a block that was made for it. -/
theorem app_one {ty tsl tb : TypeId} {k by_ : Nat} {z : Value} (hsl : Tryz.prog.underlying tsl = some (.slice ty)) (hinf : (Tryz.prog.info? ty).map (fun i => (i.zero, i.size, i.bytes)) = some (some z, k, by_)) (hz : z.cells.size = k) (hk : 0 < k) (hby0 : 0 < by_)
    {B n : Nat} {xs : List Value} {v : Value} {W : World} {vs : List Value} (h : W.ownsRow B ty k v n xs) (hB : B ≤ W.heap.size) (hby : (n + 1) * by_ ≤ 140737488355328) (hvl : vs.length = k) (hone : ∀ u ∈ vs, u.oneCell' = true)
    {ops : Array Oper} {rest : List Oper} {o : Oper} {a : Act} {Q : Exit → Act → World → Prop} (hgd : o.guard = none) (s x : Operand) (ho : o.op = .call { callee := .builtin .append, args := #[s, x], argTypes := #[tsl, tsl] }) (hs : a.eval s = v)
    (hx : a.eval x = .slice (some ⟨W.heap.size, 0, none⟩) 1 1)
    (hK : ∀ v' W', W'.ownsRow B ty k v' (n + 1) (xs ++ vs) → W.grownBy W' v.ownBlock → (∀ g, v'.ownBlock = some g → v.ownBlock = some g ∨ W.heap.size ≤ g) → wpList Tryz.prog ops Q rest (a.put o.dst v') W') : wpList Tryz.prog ops Q (o :: rest) a (W.alloc (.cells vs.toArray tb)) := by
  obtain ⟨i0, hi, hz0, hz1, hz2⟩ := info_parts hinf
  have hn : n + 1 ≤ 140737488355328 := Nat.le_trans (Nat.le_mul_of_pos_right _ hby0) hby
  obtain ⟨v', w', hrun, hown, h3⟩ := append_twoP (P := Tryz.prog) (W.alloc (.cells vs.toArray tb)) B tsl o.type ty i0 z k by_ hsl hi hz0 hz1 hz2 hz hk v n _ (h.alloc _) ⟨W.heap.size, 0, none⟩ 1 1 vs (by rw [hvl, Nat.one_mul]) cells_at_new hone (by decide) (by unfold maxLen; omega) hby (by simp; omega)
  have hfin : W.grownBy w' v.ownBlock ∧ (∀ g, v'.ownBlock = some g → v.ownBlock = some g ∨ W.heap.size ≤ g) := by
    rcases h3 with ⟨g, cap, e1, e2, hg⟩ | ⟨hg, g, cap, e2, hgs⟩
    · subst e1 e2
      exact ⟨grow_al hg, fun g h => .inl h⟩
    · have hg2 := grow_al hg
      refine ⟨⟨hg2.os, hg2.tape, hg2.output, hg2.size, fun b hb _ => hg2.block b hb (by simp)⟩, fun g' h => .inr ?_⟩
      subst e2
      simp only [Value.ownBlock, Option.some.injEq] at h
      have : (W.alloc (.cells vs.toArray tb)).heap.size = W.heap.size + 1 := by simp
      omega
  refine wpList_plain hgd fun K hK' => ?_
  unfold Oper.wp execOp
  simp only [ho, resolve, invoke, builtin, Sem.run_bind, Sem.run_pure, Result.andThen_ok, List.map_toArray, List.map_cons, List.map_nil, hs, hx, hrun]
  exact hK' _ _ (hK v' w' hown hfin.1 hfin.2)

/-- The cells of an attribute. -/
def aC (a : Str × PV) : List Value := .string ⟨a.1.toArray⟩ :: a.2.cells
def aCs (l : List (Str × PV)) : List Value := l.flatMap aC
theorem aCs_snoc (l : List (Str × PV)) (a : Str × PV) : aCs (l ++ [a]) = aCs l ++ aC a := by simp [aCs]
theorem aC_one (a : Str × PV) : ∀ u ∈ aC a, u.oneCell' = true := by
  intro u hu
  simp only [aC, PV.cells, List.mem_cons, List.not_mem_nil, or_false] at hu
  rcases hu with rfl | rfl | rfl | rfl | rfl | rfl | rfl | rfl | rfl <;> rfl
theorem inf_field : ∃ z, (Tryz.prog.info? 68).map (fun i => (i.zero, i.size, i.bytes)) = some (some z, 9, 128) ∧ z.cells.size = 9 := ⟨.agg #[.string ⟨#[]⟩, .int .u8 0, .int .i64 0, .string ⟨#[]⟩, .slice none 0 0, .slice none 0 0, .int .u8 0, .string ⟨#[]⟩, .bool false], by kernel_rfl, rfl⟩
def FAttrs (B : Nat) (l : List (Str × PV)) (v : Value) (W : World) : Prop := W.ownsRow B 68 9 v l.length (aCs l)
theorem FVal.open_ {x : PV} {v : Value} {W : World} (h : FVal x v W) : ∃ (k n : Int) (s : ByteArray), x.cells = [.int .u8 k, .int .i64 n, .string s, .slice none 0 0, .slice none 0 0, .int .u8 0, .string ⟨#[]⟩, .bool false] ∧ v = .agg #[.int .u8 k, .int .i64 n, .string s, .slice none 0 0, .slice none 0 0, .int .u8 0, .string ⟨#[]⟩, .bool false] := ⟨x.k, x.n, ⟨x.s.toArray⟩, rfl, h⟩
/-- Attributes under way. -/
structure AS (w0 : World) (R : Nat) (W : World) (r0 : Str) (acc : List (Str × PV)) (r' : Str) (v : Value) (wr : World) : Prop where
  own : FAttrs W.heap.size acc v wr
  rd : RD w0 R r' wr
  kp : Kp (· = R) W wr
  eq : attrsR r0 = (attrsR r').map fun y => (acc ++ y.1, y.2)
  len : acc.length + r'.length ≤ r0.length
theorem own_slice {W : World} {B k n : Nat} {ty : TypeId} {v : Value} {xs : List Value} (h : W.ownsRow B ty k v n xs) : ∃ a c, v = .slice a n c ∧ n ≤ c ∧ c ≤ maxLen := by
  rcases h.2 with ⟨hv, h0⟩ | ⟨g, cap, cur, hv, -, -, h2, h3, -⟩
  · exact ⟨none, 0, by rw [hv, h0], by omega, by unfold maxLen; omega⟩
  · exact ⟨_, cap, hv, h2, h3⟩
theorem own_kp {W W' : World} {B k n : Nat} {ty : TypeId} {v : Value} {xs : List Value} {X : Nat → Prop} (h : W.ownsRow B ty k v n xs) (hk : Kp X W W') (hX : ∀ i, B ≤ i → ¬ X i) : W'.ownsRow B ty k v n xs :=
  ownsRow_kp h fun q h1 h2 _ => hk.block q h2 (hX q h1)

set_option maxRecDepth 100000 in
set_option maxHeartbeats 4000000 in
theorem attrs_any {w0 : World} {R : Nat} {r : Str} {W : World} (h : RD w0 R r W) (hl : r.length ≤ 1073741824) (ht : STabs w0) :
    Calls Tryz.prog 160 #[rp R] W (PostV w0 R W (FAttrs W.heap.size) (attrsR r)) := by
  have hlt := h.lt
  obtain ⟨post, hpost⟩ : ∃ p, PostV w0 R W (FAttrs W.heap.size) (attrsR r) = p := ⟨_, rfl⟩
  rw [hpost]
  have HB : Hid (∀ w', attrsR r = none → Kp (· = R) W w' → post (.panicked [pz]) w') := Lib.hid fun w' h1 h2 => by rw [← hpost, h1]; exact ⟨rfl, h2⟩
  have HO : Hid (∀ x r' v w', attrsR r = some (x, r') → FAttrs W.heap.size x v w' → RD w0 R r' w' → Kp (· = R) W w' → post (.returned v) w') := Lib.hid fun x r' v w' h1 h2 h3 h4 => by rw [← hpost, h1]; exact ⟨_, rfl, h2, h3, h4⟩
  have HR := Lib.hid h
  clear hpost h
  obtain ⟨zf, hinf, hzf⟩ := inf_field
  go_enter Tryz.func160, Tryz.ntmps160
  go_upto_region 2 with fail
  go_loopw [3] (fun v wr => ∃ acc r', AS w0 R W r acc r' v wr) (fun _ wr => left R wr)
  case atStart =>
    refine ⟨[], r, World.ownsRow_nil _ _ _ _, HR.out, Kp.refl _ _, ?_, by simp⟩
    cases attrsR r <;> rfl
  case round =>
    obtain ⟨acc, r', hq⟩ := hrel
    have HQ := Lib.hid hq
    have hrd := hq.rd
    have HL := Lib.hid hrd.left
    obtain ⟨al, cl, rfl, hcl, hcm⟩ := own_slice hq.own
    have hlr : r'.length ≤ r.length := by have := hq.len; omega
    have hlt2 : (Lib.trimPrefix r' [32]).length ≤ 140737488355328 := by have := trim_le r' [32]; omega
    have HH := Lib.hid (Tryz.strings_HasPrefix ⟨r'.toArray⟩ ⟨#[125]⟩)
    obtain ⟨c0, f0⟩ := hrd.cells
    clear hq
    cases hp : Lib.hasPrefix r' [125] with
    | true =>
      have HP : Hid (Lib.hasPrefix (⟨r'.toArray⟩ : ByteArray).data.toList (⟨#[125]⟩ : ByteArray).data.toList = true) := Lib.hid (by rw [ba_list]; exact hp)
      generalize (⟨r'.toArray⟩ : ByteArray) = s at HH HP c0
      go_wp2_with (go_at_call 134; (with_reducible refine (HH.out _).mono ?_); rw [HP.out]; rintro e1 w1 ⟨rfl, rfl⟩)
      refine HO.out acc r' _ _ ?_ HQ.out.own hrd HQ.out.kp
      rw [HQ.out.eq, attrsR_eq, if_pos hp]
      simp
    | false =>
      have HP : Hid (Lib.hasPrefix (⟨r'.toArray⟩ : ByteArray).data.toList (⟨#[125]⟩ : ByteArray).data.toList = false) := Lib.hid (by rw [ba_list]; exact hp)
      generalize (⟨r'.toArray⟩ : ByteArray) = s at HH HP c0
      have hE : attrsR r = ((attrR r').bind fun x => (attrsR x.2).bind fun y => some (x.1 :: y.1, y.2)).map fun y => (acc ++ y.1, y.2) := by rw [HQ.out.eq, attrsR_eq r', if_neg (by rw [hp]; exact Bool.false_ne_true)]
      have HE := Lib.hid hE
      clear hE
      cases hq1 : quotedR (Lib.trimPrefix r' [32]) with
      | none =>
        have HN : Hid (attrsR r = none) := Lib.hid (by rw [HE.out, attrR, hq1]; rfl)
        go_wp2_with (first
          | (go_at_call 134; (with_reducible refine (HH.out _).mono ?_); rw [HP.out]; rintro e1 w1 ⟨rfl, rfl⟩)
          | (go_at_call 135; (with_reducible refine (is_any hrd ⟨#[32]⟩).mono ?_); rintro e2 w2 ⟨rfl, h2, hk2⟩; have g2 : RD w0 R (Lib.trimPrefix r' [32]) w2 := h2; clear h2)
          | (go_at_call 158; (with_reducible refine (quoted_any g2 hlt2).mono ?_); rw [hq1]; rintro e3 w3 ⟨rfl, hk3⟩))
        exact ⟨rfl, HB.out _ HN.out ((HQ.out.kp.trans hk2).trans hk3)⟩
      | some x1 =>
        obtain ⟨nm, r2⟩ := x1
        have hl2 : r2.length < r'.length := by have a := quotedR_len hq1; have b := trim_le r' [32]; simp only at a; omega
        cases hq2 : takeR [32] r2 with
        | none =>
          have HN : Hid (attrsR r = none) := Lib.hid (by rw [HE.out, attrR, hq1]; simp only [Option.bind_some]; rw [hq2]; rfl)
          go_wp2_with (first
            | (go_at_call 134; (with_reducible refine (HH.out _).mono ?_); rw [HP.out]; rintro e1 w1 ⟨rfl, rfl⟩)
            | (go_at_call 135; (with_reducible refine (is_any hrd ⟨#[32]⟩).mono ?_); rintro e2 w2 ⟨rfl, h2, hk2⟩; have g2 : RD w0 R (Lib.trimPrefix r' [32]) w2 := h2; clear h2)
            | (go_at_call 158; (with_reducible refine (quoted_any g2 hlt2).mono ?_); rw [hq1]; rintro e3 w3 ⟨v3, rfl, rfl, g3, hk3⟩)
            | (go_at_call 159; (with_reducible refine (take_any g3 ⟨#[32]⟩).mono ?_); rw [show takeR (⟨#[32]⟩ : ByteArray).data.toList r2 = none from hq2]; rintro e4 w4 ⟨rfl, hk4⟩))
          exact ⟨rfl, HB.out _ HN.out (((HQ.out.kp.trans hk2).trans hk3).trans hk4)⟩
        | some r3 =>
          have hl3 : r3.length < r2.length := by have a := takeR_len hq2; simp only [List.length_cons, List.length_nil] at a; omega
          have hlt4 : r3.length ≤ 140737488355328 := by omega
          cases hq3 : valueR r3 with
          | none =>
            have HN : Hid (attrsR r = none) := Lib.hid (by rw [HE.out, attrR, hq1]; simp only [Option.bind_some]; rw [hq2]; simp only [Option.bind_some]; rw [hq3]; rfl)
            go_wp2_with (first
              | (go_at_call 134; (with_reducible refine (HH.out _).mono ?_); rw [HP.out]; rintro e1 w1 ⟨rfl, rfl⟩)
              | (go_at_call 135; (with_reducible refine (is_any hrd ⟨#[32]⟩).mono ?_); rintro e2 w2 ⟨rfl, h2, hk2⟩; have g2 : RD w0 R (Lib.trimPrefix r' [32]) w2 := h2; clear h2)
              | (go_at_call 158; (with_reducible refine (quoted_any g2 hlt2).mono ?_); rw [hq1]; rintro e3 w3 ⟨v3, rfl, rfl, g3, hk3⟩)
              | (go_at_call 159; (with_reducible refine (take_any g3 ⟨#[32]⟩).mono ?_); rw [show takeR (⟨#[32]⟩ : ByteArray).data.toList r2 = some r3 from hq2]; rintro e4 w4 ⟨v4, rfl, rfl, g4, hk4⟩)
              | (go_at_call 179; (with_reducible refine (value_any g4 hlt4 ht).mono ?_); rw [hq3]; rintro e5 w5 ⟨rfl, hk5⟩))
            exact ⟨rfl, HB.out _ HN.out ((((HQ.out.kp.trans hk2).trans hk3).trans hk4).trans hk5)⟩
          | some x3 =>
            obtain ⟨pv, r4⟩ := x3
            have hl4 : r4.length ≤ r3.length := by have a := valueR_len hq3; exact a
            have HA : Hid (attrR r' = some ((nm, pv), r4)) := Lib.hid (by rw [attrR, hq1]; simp only [Option.bind_some]; rw [hq2]; simp only [Option.bind_some]; rw [hq3]; rfl)
            go_wp2_with (first
              | (go_at_call 134; (with_reducible refine (HH.out _).mono ?_); rw [HP.out]; rintro e1 w1 ⟨rfl, rfl⟩)
              | (go_at_call 135; (with_reducible refine (is_any hrd ⟨#[32]⟩).mono ?_); rintro e2 w2 ⟨rfl, h2, hk2⟩; have g2 : RD w0 R (Lib.trimPrefix r' [32]) w2 := h2; clear h2)
              | (go_at_call 158; (with_reducible refine (quoted_any g2 hlt2).mono ?_); rw [hq1]; rintro e3 w3 ⟨v3, rfl, rfl, g3, hk3⟩)
              | (go_at_call 159; (with_reducible refine (take_any g3 ⟨#[32]⟩).mono ?_); rw [show takeR (⟨#[32]⟩ : ByteArray).data.toList r2 = some r3 from hq2]; rintro e4 w4 ⟨v4, rfl, rfl, g4, hk4⟩)
              | (go_at_call 179; (with_reducible refine (value_any g4 hlt4 ht).mono ?_); rw [hq3]; rintro e5 w5 ⟨v5, rfl, hv5, g5, hk5⟩; obtain ⟨k5, n5, s5, hpc, rfl⟩ := FVal.open_ hv5; have HPC := Lib.hid hpc; clear hpc hv5; have HK5 := Lib.hid (((hk2.trans hk3).trans hk4).trans hk5); have HF5 := Lib.hid (own_kp HQ.out.own HK5.out (fun i hi => by omega)); have hsz5 : W.heap.size ≤ w5.heap.size := Nat.le_trans HQ.out.kp.size HK5.out.size)
              | (refine app_one (vs := [.string ⟨nm.toArray⟩, .int .u8 k5, .int .i64 n5, .string s5, .slice none 0 0, .slice none 0 0, .int .u8 0, .string ⟨#[]⟩, .bool false]) Tryz.underlying56 hinf hzf (by decide) (by decide) HF5.out hsz5 (by have := HQ.out.len; omega) rfl (by simp [Value.oneCell']) rfl _ _ rfl rfl rfl ?_; intro v6 w6 hf6 hg6 ho6))
            go_roundw
            case rel =>
              have hrow : ∀ g, (Value.slice al acc.length cl).ownBlock = some g → W.heap.size ≤ g := fun g e => (HF5.out.lt g e).1
              refine ⟨acc ++ [(nm, pv)], r4, ?_, ?_, ?_, ?_, ?_⟩
              · show World.ownsRow _ _ _ _ _ _ _
                rw [List.length_append, aCs_snoc, aC, HPC.out]
                exact hf6
              · exact g5.kp (X := fun i => W.heap.size ≤ i) ((Kp.refl _ _).grown hg6 fun g e => .inr (hrow g e)) (by omega) (fun i hi => by have := g5.base; omega)
              · exact (HQ.out.kp.trans HK5.out).grown hg6 fun g e => .inl (hrow g e)
              · rw [HE.out, HA.out]
                simp only [Option.bind_some]
                cases attrsR r4 <;> simp
              · have := HQ.out.len
                simp only [List.length_append, List.length_cons, List.length_nil]
                omega
            case measure =>
              have e1 := HL.out
              have hrow : ∀ g, (Value.slice al acc.length cl).ownBlock = some g → W.heap.size ≤ g := fun g e => (HF5.out.lt g e).1
              have e2 := (g5.kp (X := fun i => W.heap.size ≤ i) ((Kp.refl _ _).grown hg6 fun g e => .inr (hrow g e)) (by omega) (fun i hi => by have := g5.base; omega)).left
              omega
end Go.Proofs.YtajmdhcknmmbbaaGreatDoor.Sh
