/-
  Walks: Apart answers yes for a book of lists of words that share no block.
  Conditions: the book holds lists of words alone, fewer than a hundred.
-/
import Derived.Test.YtpnbnomaaeoemaaGreatDoorLexKE
import Derived.Test.YtpnbnomaaeoemaaGreatDoorLexKD
namespace Go.Proofs.YtpnbnomaaeoemaaGreatDoor
open Go.RowKit

theorem gs_of {w0 W : World} {B T m c : Nat} {sa : Nat → Option Addr} {ln sc : Nat → Nat} {N : Nat → Int} (hs : BkS w0 B T m c sa ln sc N) (hm : 0 < m) (h : BkT w0 B T m c sa ln sc N W) (hr : RowsF w0 m sa ln sc N ln W) : GS w0 B T m c sa ln sc N W.heap.size :=
  ⟨hs, World.block_lt_of_cell? _ _ h.fld, World.block_lt_of_cell? _ _ (h.ent 0 hm).1, fun j hj b e => hr.lt hj e, fun j hj b e => by
    obtain ⟨X, h1, -⟩ := hr j hj
    rw [e] at h1
    exact (h1.lt b rfl).1, h.low.size⟩

set_option maxRecDepth 100000 in
set_option maxHeartbeats 4000000 in
theorem apart_words {w0 w : World} {B T m c : Nat} {sa : Nat → Option Addr} {ln sc : Nat → Nat} {N : Nat → Int} (hs : BkS w0 B T m c sa ln sc N) (hm : 0 < m) (h : BkT w0 B T m c sa ln sc N w) (hr : RowsF w0 m sa ln sc N (fun _ => 0) w) :
    Calls Tryz.prog 14 #[.pointer (some ⟨B, 0, none⟩)] w fun e w' => e = .returned (.bool true) ∧ Below w0.heap.size w0 w' := by
  have Hf0 := Lib.hid (fun W (h : BkT w0 B T m c sa ln sc N W) => fillInt_nil (h.oth 1 (by decide) (by decide) (by decide)))
  have Hg0 := Lib.hid (fun W (h : BkT w0 B T m c sa ln sc N W) => growInt_nil (h.oth 1 (by decide) (by decide) (by decide)))
  have Hl0 := Lib.hid (fun W (h : BkT w0 B T m c sa ln sc N W) => lookInt_nil (h.oth 1 (by decide) (by decide) (by decide)))
  have Hf2 := Lib.hid (fun W (h : BkT w0 B T m c sa ln sc N W) => fillValue_nil (h.oth 3 (by decide) (by decide) (by decide)))
  have Hg2 := Lib.hid (fun W (h : BkT w0 B T m c sa ln sc N W) => growValue_nil (h.oth 3 (by decide) (by decide) (by decide)))
  have Hl2 := Lib.hid (fun W (h : BkT w0 B T m c sa ln sc N W) => lookValue_nil (h.oth 3 (by decide) (by decide) (by decide)))
  have Hf3 := Lib.hid (fun W (h : BkT w0 B T m c sa ln sc N W) => fillField_nil (h.oth 4 (by decide) (by decide) (by decide)))
  have Hg3 := Lib.hid (fun W (h : BkT w0 B T m c sa ln sc N W) => growField_nil (h.oth 4 (by decide) (by decide) (by decide)))
  have Hl3 := Lib.hid (fun W (h : BkT w0 B T m c sa ln sc N W) => lookField_nil (h.oth 4 (by decide) (by decide) (by decide)))
  have Hf4 := Lib.hid (fun W (h : BkT w0 B T m c sa ln sc N W) => fillText_nil (h.oth 2 (by decide) (by decide) (by decide)))
  have Hg4 := Lib.hid (fun W (h : BkT w0 B T m c sa ln sc N W) => growText_nil (h.oth 2 (by decide) (by decide) (by decide)))
  have Hl4 := Lib.hid (fun W (h : BkT w0 B T m c sa ln sc N W) => lookText_nil (h.oth 2 (by decide) (by decide) (by decide)))
  have Hf5 := Lib.hid (fun W (h : BkT w0 B T m c sa ln sc N W) => fillChild_nil (h.oth 6 (by decide) (by decide) (by decide)))
  have Hg5 := Lib.hid (fun W (h : BkT w0 B T m c sa ln sc N W) => growChild_nil (h.oth 6 (by decide) (by decide) (by decide)))
  have Hl5 := Lib.hid (fun W (h : BkT w0 B T m c sa ln sc N W) => lookChild_nil (h.oth 6 (by decide) (by decide) (by decide)))
  have Hf6 := Lib.hid (fun W (h : BkT w0 B T m c sa ln sc N W) => fillCell_nil (h.oth 7 (by decide) (by decide) (by decide)))
  have Hg6 := Lib.hid (fun W (h : BkT w0 B T m c sa ln sc N W) => growCell_nil (h.oth 7 (by decide) (by decide) (by decide)))
  have Hl6 := Lib.hid (fun W (h : BkT w0 B T m c sa ln sc N W) => lookCell_nil (h.oth 7 (by decide) (by decide) (by decide)))
  have Hf7 := Lib.hid (fun W (h : BkT w0 B T m c sa ln sc N W) => fillInst_nil (h.oth 8 (by decide) (by decide) (by decide)))
  have Hg7 := Lib.hid (fun W (h : BkT w0 B T m c sa ln sc N W) => growInst_nil (h.oth 8 (by decide) (by decide) (by decide)))
  have Hl7 := Lib.hid (fun W (h : BkT w0 B T m c sa ln sc N W) => lookInst_nil (h.oth 8 (by decide) (by decide) (by decide)))
  have Hf8 := Lib.hid (fun W (h : BkT w0 B T m c sa ln sc N W) => fillAct_nil (h.oth 9 (by decide) (by decide) (by decide)))
  have Hg8 := Lib.hid (fun W (h : BkT w0 B T m c sa ln sc N W) => growAct_nil (h.oth 9 (by decide) (by decide) (by decide)))
  have Hl8 := Lib.hid (fun W (h : BkT w0 B T m c sa ln sc N W) => lookAct_nil (h.oth 9 (by decide) (by decide) (by decide)))
  have Hf9 := Lib.hid (fun W (h : BkT w0 B T m c sa ln sc N W) => fillExpr_nil (h.oth 10 (by decide) (by decide) (by decide)))
  have Hg9 := Lib.hid (fun W (h : BkT w0 B T m c sa ln sc N W) => growExpr_nil (h.oth 10 (by decide) (by decide) (by decide)))
  have Hl9 := Lib.hid (fun W (h : BkT w0 B T m c sa ln sc N W) => lookExpr_nil (h.oth 10 (by decide) (by decide) (by decide)))
  have Hf10 := Lib.hid (fun W (h : BkT w0 B T m c sa ln sc N W) => fillStmt_nil (h.oth 11 (by decide) (by decide) (by decide)))
  have Hg10 := Lib.hid (fun W (h : BkT w0 B T m c sa ln sc N W) => growStmt_nil (h.oth 11 (by decide) (by decide) (by decide)))
  have Hl10 := Lib.hid (fun W (h : BkT w0 B T m c sa ln sc N W) => lookStmt_nil (h.oth 11 (by decide) (by decide) (by decide)))
  have Hf11 := Lib.hid (fun W (h : BkT w0 B T m c sa ln sc N W) => fillComponent_nil (h.oth 12 (by decide) (by decide) (by decide)))
  have Hg11 := Lib.hid (fun W (h : BkT w0 B T m c sa ln sc N W) => growComponent_nil (h.oth 12 (by decide) (by decide) (by decide)))
  have Hl11 := Lib.hid (fun W (h : BkT w0 B T m c sa ln sc N W) => lookComponent_nil (h.oth 12 (by decide) (by decide) (by decide)))
  have Hf12 := Lib.hid (fun W (h : BkT w0 B T m c sa ln sc N W) => fillNode_nil (h.oth 13 (by decide) (by decide) (by decide)))
  have Hg12 := Lib.hid (fun W (h : BkT w0 B T m c sa ln sc N W) => growNode_nil (h.oth 13 (by decide) (by decide) (by decide)))
  have Hl12 := Lib.hid (fun W (h : BkT w0 B T m c sa ln sc N W) => lookNode_nil (h.oth 13 (by decide) (by decide) (by decide)))
  have Hf13 := Lib.hid (fun W (h : BkT w0 B T m c sa ln sc N W) => fillOp_nil (h.oth 14 (by decide) (by decide) (by decide)))
  have Hg13 := Lib.hid (fun W (h : BkT w0 B T m c sa ln sc N W) => growOp_nil (h.oth 14 (by decide) (by decide) (by decide)))
  have Hl13 := Lib.hid (fun W (h : BkT w0 B T m c sa ln sc N W) => lookOp_nil (h.oth 14 (by decide) (by decide) (by decide)))
  have Hf14 := Lib.hid (fun W (h : BkT w0 B T m c sa ln sc N W) => fillNote_nil (h.oth 15 (by decide) (by decide) (by decide)))
  have Hg14 := Lib.hid (fun W (h : BkT w0 B T m c sa ln sc N W) => growNote_nil (h.oth 15 (by decide) (by decide) (by decide)))
  have Hl14 := Lib.hid (fun W (h : BkT w0 B T m c sa ln sc N W) => lookNote_nil (h.oth 15 (by decide) (by decide) (by decide)))
  have Hf15 := Lib.hid (fun W (h : BkT w0 B T m c sa ln sc N W) => fillResource_nil (h.oth 16 (by decide) (by decide) (by decide)))
  have Hg15 := Lib.hid (fun W (h : BkT w0 B T m c sa ln sc N W) => growResource_nil (h.oth 16 (by decide) (by decide) (by decide)))
  have Hl15 := Lib.hid (fun W (h : BkT w0 B T m c sa ln sc N W) => lookResource_nil (h.oth 16 (by decide) (by decide) (by decide)))
  have HF := Lib.hid (fillWord_any hs h hr)
  have HG := Lib.hid (fun W (h : BkT w0 B T m c sa ln sc N W) (hr : RowsF w0 m sa ln sc N ln W) => (growWord_any (gs_of hs hm h hr) h hr (Nat.le_refl _)).mono (R' := fun e w' => e = .returned (.tuple #[]) ∧ ∃ ws, GS w0 B T m c sa ln sc N ws ∧ GO w0 B T m c sa ln sc N ws m w') (fun e w' hh => ⟨hh.1, _, gs_of hs hm h hr, hh.2⟩))
  have HL := Lib.hid (fun W ws (h1 : GS w0 B T m c sa ln sc N ws) (h2 : GO w0 B T m c sa ln sc N ws m W) => lookWord_any h1 h2)
  have OK := Lib.hid h
  clear h hr hs hm
  go_enter Tryz.func14, Tryz.ntmps14
  go_wp2_with (first
    | (go_at_call 33; (with_reducible refine (Hf0.out _ OK.out).mono ?_); rintro x w1 ⟨rfl, rfl⟩)
    | (go_at_call 49; (with_reducible refine (Hg0.out _ OK.out).mono ?_); rintro x w1 ⟨rfl, rfl⟩)
    | (go_at_call 65; (with_reducible refine (Hl0.out _ OK.out).mono ?_); rintro x w1 ⟨rfl, rfl⟩)
    | (go_at_call 35; (with_reducible refine (Hf2.out _ OK.out).mono ?_); rintro x w1 ⟨rfl, rfl⟩)
    | (go_at_call 51; (with_reducible refine (Hg2.out _ OK.out).mono ?_); rintro x w1 ⟨rfl, rfl⟩)
    | (go_at_call 67; (with_reducible refine (Hl2.out _ OK.out).mono ?_); rintro x w1 ⟨rfl, rfl⟩)
    | (go_at_call 36; (with_reducible refine (Hf3.out _ OK.out).mono ?_); rintro x w1 ⟨rfl, rfl⟩)
    | (go_at_call 52; (with_reducible refine (Hg3.out _ OK.out).mono ?_); rintro x w1 ⟨rfl, rfl⟩)
    | (go_at_call 68; (with_reducible refine (Hl3.out _ OK.out).mono ?_); rintro x w1 ⟨rfl, rfl⟩)
    | (go_at_call 34; (with_reducible refine (Hf4.out _ OK.out).mono ?_); rintro x w1 ⟨rfl, rfl⟩)
    | (go_at_call 50; (with_reducible refine (Hg4.out _ OK.out).mono ?_); rintro x w1 ⟨rfl, rfl⟩)
    | (go_at_call 66; (with_reducible refine (Hl4.out _ OK.out).mono ?_); rintro x w1 ⟨rfl, rfl⟩)
    | (go_at_call 38; (with_reducible refine (Hf5.out _ OK.out).mono ?_); rintro x w1 ⟨rfl, rfl⟩)
    | (go_at_call 54; (with_reducible refine (Hg5.out _ OK.out).mono ?_); rintro x w1 ⟨rfl, rfl⟩)
    | (go_at_call 70; (with_reducible refine (Hl5.out _ OK.out).mono ?_); rintro x w1 ⟨rfl, rfl⟩)
    | (go_at_call 39; (with_reducible refine (Hf6.out _ OK.out).mono ?_); rintro x w1 ⟨rfl, rfl⟩)
    | (go_at_call 55; (with_reducible refine (Hg6.out _ OK.out).mono ?_); rintro x w1 ⟨rfl, rfl⟩)
    | (go_at_call 71; (with_reducible refine (Hl6.out _ OK.out).mono ?_); rintro x w1 ⟨rfl, rfl⟩)
    | (go_at_call 40; (with_reducible refine (Hf7.out _ OK.out).mono ?_); rintro x w1 ⟨rfl, rfl⟩)
    | (go_at_call 56; (with_reducible refine (Hg7.out _ OK.out).mono ?_); rintro x w1 ⟨rfl, rfl⟩)
    | (go_at_call 72; (with_reducible refine (Hl7.out _ OK.out).mono ?_); rintro x w1 ⟨rfl, rfl⟩)
    | (go_at_call 41; (with_reducible refine (Hf8.out _ OK.out).mono ?_); rintro x w1 ⟨rfl, rfl⟩)
    | (go_at_call 57; (with_reducible refine (Hg8.out _ OK.out).mono ?_); rintro x w1 ⟨rfl, rfl⟩)
    | (go_at_call 73; (with_reducible refine (Hl8.out _ OK.out).mono ?_); rintro x w1 ⟨rfl, rfl⟩)
    | (go_at_call 42; (with_reducible refine (Hf9.out _ OK.out).mono ?_); rintro x w1 ⟨rfl, rfl⟩)
    | (go_at_call 58; (with_reducible refine (Hg9.out _ OK.out).mono ?_); rintro x w1 ⟨rfl, rfl⟩)
    | (go_at_call 74; (with_reducible refine (Hl9.out _ OK.out).mono ?_); rintro x w1 ⟨rfl, rfl⟩)
    | (go_at_call 43; (with_reducible refine (Hf10.out _ OK.out).mono ?_); rintro x w1 ⟨rfl, rfl⟩)
    | (go_at_call 59; (with_reducible refine (Hg10.out _ OK.out).mono ?_); rintro x w1 ⟨rfl, rfl⟩)
    | (go_at_call 75; (with_reducible refine (Hl10.out _ OK.out).mono ?_); rintro x w1 ⟨rfl, rfl⟩)
    | (go_at_call 44; (with_reducible refine (Hf11.out _ OK.out).mono ?_); rintro x w1 ⟨rfl, rfl⟩)
    | (go_at_call 60; (with_reducible refine (Hg11.out _ OK.out).mono ?_); rintro x w1 ⟨rfl, rfl⟩)
    | (go_at_call 76; (with_reducible refine (Hl11.out _ OK.out).mono ?_); rintro x w1 ⟨rfl, rfl⟩)
    | (go_at_call 45; (with_reducible refine (Hf12.out _ OK.out).mono ?_); rintro x w1 ⟨rfl, rfl⟩)
    | (go_at_call 61; (with_reducible refine (Hg12.out _ OK.out).mono ?_); rintro x w1 ⟨rfl, rfl⟩)
    | (go_at_call 77; (with_reducible refine (Hl12.out _ OK.out).mono ?_); rintro x w1 ⟨rfl, rfl⟩)
    | (go_at_call 46; (with_reducible refine (Hf13.out _ OK.out).mono ?_); rintro x w1 ⟨rfl, rfl⟩)
    | (go_at_call 62; (with_reducible refine (Hg13.out _ OK.out).mono ?_); rintro x w1 ⟨rfl, rfl⟩)
    | (go_at_call 78; (with_reducible refine (Hl13.out _ OK.out).mono ?_); rintro x w1 ⟨rfl, rfl⟩)
    | (go_at_call 47; (with_reducible refine (Hf14.out _ OK.out).mono ?_); rintro x w1 ⟨rfl, rfl⟩)
    | (go_at_call 63; (with_reducible refine (Hg14.out _ OK.out).mono ?_); rintro x w1 ⟨rfl, rfl⟩)
    | (go_at_call 79; (with_reducible refine (Hl14.out _ OK.out).mono ?_); rintro x w1 ⟨rfl, rfl⟩)
    | (go_at_call 48; (with_reducible refine (Hf15.out _ OK.out).mono ?_); rintro x w1 ⟨rfl, rfl⟩)
    | (go_at_call 64; (with_reducible refine (Hg15.out _ OK.out).mono ?_); rintro x w1 ⟨rfl, rfl⟩)
    | (go_at_call 80; (with_reducible refine (Hl15.out _ OK.out).mono ?_); rintro x w1 ⟨rfl, rfl⟩)
    | (go_at_call 37; (with_reducible refine (HF.out).mono ?_); rintro x w1 ⟨rfl, h1, h2⟩; have OK := Lib.hid h1; have HR := Lib.hid h2; clear h1 h2)
    | (go_at_call 53; (with_reducible refine (HG.out _ OK.out HR.out).mono ?_); rintro x w1 ⟨rfl, ws, h1, h2⟩; have OK := Lib.hid h2.bk; have HGO := Lib.hid h2; have HGS := Lib.hid h1; clear h1 h2)
    | (go_at_call 69; (with_reducible refine (HL.out _ _ HGS.out HGO.out).mono ?_); rintro x w1 ⟨rfl, h1⟩; have OK := Lib.hid h1.bk; have HE := Lib.hid h1.bk; clear h1))
  go_ret
  exact ⟨rfl, HE.out.low⟩
end Go.Proofs.YtpnbnomaaeoemaaGreatDoor
