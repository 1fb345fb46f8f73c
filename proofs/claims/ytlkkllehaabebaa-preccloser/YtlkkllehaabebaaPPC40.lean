import Derived.Test.YtlkkllehaabebaaPPC38ToPC39
import Derived.Test.YtlkkllehaabebaaPPC10ToPC11
namespace Go.Proofs.Ytlkkllehaabebaa
set_option linter.unusedVariables false
set_option maxRecDepth 100000
set_option maxHeartbeats 16000000
open Go.RowKit Go.Maps
def asU (l : List Int) (i : Nat) : Int := if i < l.length /\ (l.getD i 0).tmod 3 = 2 then 3 else if i < l.length /\ (l.getD i 0).tmod 3 = 1 then 2 else 1
theorem asU_in (l : List Int) (i : Nat) : 1 <= asU l i /\ asU l i <= 3 := by
 unfold asU
 repeat' split
 all_goals omega
def tab0 (n : Nat) : GV := ⟨none, 0, [], some ⟨n + 1 + 1, 0, none⟩, 1, [eB], 0, none, 0, [], none, 0, []⟩
theorem TbW.start (w : World) : TbW w (w.heap.size + 1 + 1 + 1) (w.heap.size + 1) (w.heap.size + 1 + 1) (tab0 w.heap.size) ((((w.alloc (.cells #[.slice none 0 0, .slice none 0 0, .int .i64 0, .slice none 0 0, .slice none 0 0] 26)).alloc (.cells #[.int .i64 2, .int .i64 0] 113)).alloc (.cells #[.string eB] 9)).alloc (gBox (tab0 w.heap.size))) := by
 have z0 := heap_alloc_new w (.cells #[.slice none 0 0, .slice none 0 0, .int .i64 0, .slice none 0 0, .slice none 0 0] 26)
 have b1 := below_alloc (w.alloc (.cells #[.slice none 0 0, .slice none 0 0, .int .i64 0, .slice none 0 0, .slice none 0 0] 26)) (.cells #[.int .i64 2, .int .i64 0] 113)
 have z1 := heap_alloc_new (w.alloc (.cells #[.slice none 0 0, .slice none 0 0, .int .i64 0, .slice none 0 0, .slice none 0 0] 26)) (.cells #[.int .i64 2, .int .i64 0] 113)
 have b2 := below_alloc ((w.alloc (.cells #[.slice none 0 0, .slice none 0 0, .int .i64 0, .slice none 0 0, .slice none 0 0] 26)).alloc (.cells #[.int .i64 2, .int .i64 0] 113)) (.cells #[.string eB] 9)
 have z2 := heap_alloc_new ((w.alloc (.cells #[.slice none 0 0, .slice none 0 0, .int .i64 0, .slice none 0 0, .slice none 0 0] 26)).alloc (.cells #[.int .i64 2, .int .i64 0] 113)) (.cells #[.string eB] 9)
 have b3 := below_alloc (((w.alloc (.cells #[.slice none 0 0, .slice none 0 0, .int .i64 0, .slice none 0 0, .slice none 0 0] 26)).alloc (.cells #[.int .i64 2, .int .i64 0] 113)).alloc (.cells #[.string eB] 9)) (gBox (tab0 w.heap.size))
 have z3 := heap_alloc_new (((w.alloc (.cells #[.slice none 0 0, .slice none 0 0, .int .i64 0, .slice none 0 0, .slice none 0 0] 26)).alloc (.cells #[.int .i64 2, .int .i64 0] 113)).alloc (.cells #[.string eB] 9)) (gBox (tab0 w.heap.size))
 have b0 := below_alloc w (.cells #[.slice none 0 0, .slice none 0 0, .int .i64 0, .slice none 0 0, .slice none 0 0] 26)
 have B := b0.trans ((b1.trans ((b2.trans (b3.mono b2.size)).mono b1.size)).mono b0.size)
 rw [alZ] at z1
 rw [alZ, alZ] at z2
 rw [alZ, alZ, alZ] at z3
 exact ⟨B, by omega, z3, blk_later (blk_later z1 b2) b3, blk_later (blk_later (blk_later z0 b1) b2) b3, rfl, rfl, rfl, blk_later z2 b3, GS.nil _, fun k hk => (by cases hk), PY.nil _, fun k hk => (by cases hk), fun x hx => (by cases hx), LY.nil _, fun k hk => (by cases hk), fun x hx => (by cases hx)⟩
theorem bel2 (w : World) (o p : Obj) : Below w.heap.size w ((w.alloc o).alloc p) := (below_alloc w o).trans ((below_alloc _ p).mono (below_alloc w o).size)
theorem conv_one (w : World) (i : Nat) (hi : i <= 8) : (convert 95 9 (.slice (some ⟨w.heap.size, 0, none⟩) 1 1)).run Try.prog (w.alloc (.cells #[.int .u8 (97 + (i : Int))] 5)) = .ok (.string ⟨[(97 + i).toUInt8].toArray⟩) (w.alloc (.cells #[.int .u8 (97 + (i : Int))] 5)) := by
 refine run_convert_bytes_back (P := Try.prog) _ 95 9 5 ⟨w.heap.size, 0, none⟩ 1 [(97 + i).toUInt8] Try.underlying95 Try.underlying5 Try.underlying9 ?_
 have hh := heap_alloc_new w (.cells #[.int .u8 (97 + (i : Int))] 5)
 intro j hj
 rw [add_none, cellq_any hh]
 match j, hj with
 | 0, _ => simp; omega
theorem tn_cat (i : Nat) : (({ data := #[116] } : ByteArray) ++ ({ data := #[97 + UInt8.ofNat i] } : ByteArray)) = tnB i := by
 apply ByteArray.ext
 simp [tnB, ByteArray.data_append, UInt8.ofNat_add]
theorem tn_cell (w : World) (i : Nat) (o : Obj) : ((w.alloc o).alloc (.cells #[.string (({ data := #[116] } : ByteArray) ++ ({ data := #[97 + UInt8.ofNat i] } : ByteArray))] 9)).cell? ⟨w.heap.size + 1, 0, none⟩ = some (.string (tnB i)) := by
 have h := heap_alloc_new (w.alloc o) (.cells #[.string (({ data := #[116] } : ByteArray) ++ ({ data := #[97 + UInt8.ofNat i] } : ByteArray))] 9)
 rw [alZ] at h
 rw [cellq_any h, tn_cat]
 rfl
theorem fz_of {w : World} {b o : Nat} {C : Array Value} {t : TypeId} (h : w.heap[b]? = some (.cells C t (0, 0))) : w.frozen? ⟨b, o, none⟩ = false := by
 unfold World.frozen?
 rw [h]
 rfl
theorem new3m {w : World} {p : Addr} {v : Value} {o : Obj} {a b c : Value} {t : TypeId} : ∀ j u, [a, b, c][j]? = some u -> (((w.setCell p v).alloc o).alloc (.cells #[a, b, c] t)).cell? ⟨w.heap.size + 1, j, none⟩ = some u := by
 have := new_cells3 ((w.setCell p v).alloc o) a b c t
 rw [alZ, show (w.setCell p v).heap.size = w.heap.size by simp] at this
 exact this
theorem new2m {w : World} {p : Addr} {v : Value} {o : Obj} {a b : Value} {t : TypeId} : ∀ j u, [a, b][j]? = some u -> (((w.setCell p v).alloc o).alloc (.cells #[a, b] t)).cell? ⟨w.heap.size + 1, j, none⟩ = some u := by
 have := new_cells2 ((w.setCell p v).alloc o) a b t
 rw [alZ, show (w.setCell p v).heap.size = w.heap.size by simp] at this
 exact this
theorem first2 {w : World} {p : Addr} {v : Value} {o q : Obj} : (((w.setCell p v).alloc o).alloc q).heap[w.heap.size]? = some o := by
 have : (w.setCell p v).heap.size = w.heap.size := by simp
 rw [<- this]
 exact blk_later (heap_alloc_new _ _) (below_alloc _ _)
theorem tabP_cells (w : World) (p : Addr) (v : Value) (o : Obj) (i : Nat) : ∀ j u, [.int .i64 (tabP w.heap.size i).left, .slice (tabP w.heap.size i).ra (tabP w.heap.size i).right.length (tabP w.heap.size i).rc, .int .i64 (tabP w.heap.size i).prec][j]? = some u -> (((w.setCell p v).alloc o).alloc (.cells #[.int .i64 0, .slice (some ⟨w.heap.size, 0, none⟩) 3 3, .int .i64 (-1)] 83)).cell? ⟨w.heap.size + 1, j, none⟩ = some u :=
 new3m (a := .int .i64 0) (b := .slice (some ⟨w.heap.size, 0, none⟩) 3 3) (c := .int .i64 (-1))
theorem tabX_cells (w : World) (p : Addr) (v : Value) (o : Obj) (i : Nat) : ∀ j u, [.int .i64 (tabX w.heap.size i).left, .slice (tabX w.heap.size i).ra (tabX w.heap.size i).right.length (tabX w.heap.size i).rc, .int .i64 (tabX w.heap.size i).prec][j]? = some u -> (((w.setCell p v).alloc o).alloc (.cells #[.int .i64 0, .slice (some ⟨w.heap.size, 0, none⟩) 1 1, .int .i64 (-1)] 83)).cell? ⟨w.heap.size + 1, j, none⟩ = some u :=
 new3m (a := .int .i64 0) (b := .slice (some ⟨w.heap.size, 0, none⟩) 1 1) (c := .int .i64 (-1))
theorem tabL_cells (w : World) (p : Addr) (v : Value) (o : Obj) (x : Int) (i : Nat) : ∀ j u, [.int .i64 (tabL w.heap.size x i).assoc, .slice (tabL w.heap.size x i).ta (tabL w.heap.size x i).terms.length (tabL w.heap.size x i).tc][j]? = some u -> (((w.setCell p v).alloc o).alloc (.cells #[.int .i64 x, .slice (some ⟨w.heap.size, 0, none⟩) 1 1] 76)).cell? ⟨w.heap.size + 1, j, none⟩ = some u :=
 new2m (a := .int .i64 x) (b := .slice (some ⟨w.heap.size, 0, none⟩) 1 1)
theorem tabP_yb (w : World) (p : Addr) (v : Value) (q : Obj) (i : Nat) : ∃ b, (tabP w.heap.size i).ra = some ⟨b, 0, none⟩ /\ YB (((w.setCell p v).alloc (.cells #[.int .i64 2, .int .i64 0, .int .i64 1, .int .i64 (i : Int), .int .i64 2, .int .i64 0] 113)).alloc q) b (tabP w.heap.size i).right := ⟨w.heap.size, rfl, [(2, 0), (1, (i : Int)), (2, 0)], first2, rfl⟩
theorem tabX_yb (w : World) (p : Addr) (v : Value) (q : Obj) (i : Nat) : ∃ b, (tabX w.heap.size i).ra = some ⟨b, 0, none⟩ /\ YB (((w.setCell p v).alloc (.cells #[.int .i64 1, .int .i64 (i : Int)] 113)).alloc q) b (tabX w.heap.size i).right := ⟨w.heap.size, rfl, [(1, (i : Int))], first2, rfl⟩
theorem tabL_nb (w : World) (p : Addr) (v : Value) (q : Obj) (x : Int) (i : Nat) : ∃ b, (tabL w.heap.size x i).ta = some ⟨b, 0, none⟩ /\ NB (((w.setCell p v).alloc (.cells #[.int .i64 (i : Int)] 3)).alloc q) b (tabL w.heap.size x i).terms := ⟨w.heap.size, rfl, [(i : Int)], first2, rfl⟩
theorem tab0_i (n : Nat) (a : Nat -> Int) : Tbi 0 a (tab0 n) := ⟨rfl, rfl, fun j hj => absurd hj (Nat.not_lt_zero _), rfl, fun j hj => absurd hj (Nat.not_lt_zero _)⟩
set_option linter.unusedSimpArgs false in
theorem table_P (n : Nat) (h8 : n <= 8) (l : List Int) (ao : Option Addr) (ac : Nat) (w : World) (hr : InRow w ao l) (hl : l.length <= 140737488355328) :
  Calls Try.prog 28 #[.int .i64 n, .slice ao l.length ac] w fun e w' => ∃ g, e = .returned (GV.val g) /\ Tab n (asU l) g /\ GAt 140737488355328 w' g /\ g.ps.length <= g.pc /\ Below w.heap.size w w' := by
 have HR : Hid (∀ w', Below w.heap.size w w' -> InRow w' ao l) := fun w' hb => hr.later hb
 have T0 : Hid (TbW w (w.heap.size + 1 + 1 + 1) (w.heap.size + 1) (w.heap.size + 1 + 1) (tab0 w.heap.size) ((((w.alloc (.cells #[.slice none 0 0, .slice none 0 0, .int .i64 0, .slice none 0 0, .slice none 0 0] 26)).alloc (.cells #[.int .i64 2, .int .i64 0] 113)).alloc (.cells #[.string eB] 9)).alloc (gBox (tab0 w.heap.size)))) := TbW.start w
 clear hr
 go_enter Try.func28, Try.ntmps28
 go_wp2
 go_loopw [7] (fun z wr => ∃ (i : Nat) (g : GV), i <= n /\ z = .int .i64 i /\ TbW w (w.heap.size + 1 + 1 + 1) (w.heap.size + 1) (w.heap.size + 1 + 1) g wr /\ Tbi i (asU l) g) (fun z _ => n - (intOf z).toNat)
 case atStart => exact ⟨0, _, Nat.zero_le _, rfl, T0.out, tab0_i _ _⟩
 case round =>
  clear T0
  obtain ⟨i, g, hi, rfl, hT, hP⟩ := hrel
  have HT : Hid (TbW w (w.heap.size + 1 + 1 + 1) (w.heap.size + 1) (w.heap.size + 1 + 1) g wr /\ Tbi i (asU l) g) := ⟨hT, hP⟩
  clear hT hP
  obtain ⟨x0, x1, x2, x3, x4⟩ := gb_cells HT.out.1.hb
  by_cases hlt : i < n
  ·have ilt : (i : Int) < (n : Int) := by omega
   have hcv := conv_one wr i (by omega)
   have hz : g.ts.length <= 8 := by rw [HT.out.2.ts]; simp; omega
   have HI : Hid (i <= 8 /\ g.ps.length <= 8 /\ g.ls.length <= 8) := ⟨by omega, by rw [HT.out.2.pl]; omega, by rw [HT.out.2.ll]; omega⟩
   have u0 : wr.cell? ⟨w.heap.size + 1, 0, none⟩ = some (.int .i64 2) := (cellq_any HT.out.1.eb).trans rfl
   have u1 : wr.cell? ⟨w.heap.size + 1, 1, none⟩ = some (.int .i64 0) := (cellq_any HT.out.1.eb).trans rfl
   by_cases hil : i < l.length
   ·obtain ⟨ab, off, hao, hab, _⟩ := HR.out w (Below.refl _ _) (by intro e; rw [e] at hil; simp at hil)
    subst hao
    have CX : Hid (∀ w', Below w.heap.size w w' -> w'.cell? ⟨ab, off + i, none⟩ = some (.int .i64 (l.getD i 0))) := fun w' hb => by
     obtain ⟨b', off', e, _, hc⟩ := HR.out w' hb (by intro e; rw [e] at hil; simp at hil)
     simp only [Option.some.injEq, Addr.mk.injEq] at e
     rw [e.1, e.2.1]
     exact hc i hil
    have hne : ab ≠ w.heap.size + 1 + 1 + 1 := by omega
    have ill : (i : Int) < (l.length : Int) := by omega
    have HAS : Hid (∀ x, l.getD i 0 = x -> asU l i = if x.tmod 3 = 2 then 3 else if x.tmod 3 = 1 then 2 else 1) := fun x e => by
     subst e
     unfold asU
     simp only [hil, true_and]
    generalize hgx : l.getD i 0 = av at *
    by_cases t1 : av.tmod 3 = 1
    ·have e1 : (av.tmod 3 == 1) = true := by simp [t1]
     have e2 : (av.tmod 3 == 2) = false := by simp [t1]
     have AS : Hid (asU l i = 2) := by show _ = _; rw [HAS.out _ rfl, t1]; rfl
     go_wp2_with (first
      | (at_builtin; refine wpList_gs_append_w rfl _ _ rfl (.slice g.ta g.ts.length g.tc) g.ts rfl (HT.out.1.gs.later (bel2 _ _ _)) (wr.heap.size + 1) 1 (tnB i) rfl (tn_cell wr i _) (by omega) ?_; intro a6 n6 c6 w6 gs gr; have A6 : Hid (w6.heap[w.heap.size + 1 + 1 + 1]? = some (gBox g) /\ TbW w (w.heap.size + 1 + 1 + 1) (w.heap.size + 1) (w.heap.size + 1 + 1) { g with ta := a6, tc := c6, ts := g.ts ++ [tnB i] } (w6.setCell ⟨w.heap.size + 1 + 1 + 1, 0, none⟩ (.slice a6 n6 c6)) /\ w6.heap[w.heap.size + 1]? = some (.cells #[.int .i64 2, .int .i64 0] 113 (0, 0)) /\ Below w.heap.size w w6 /\ n6 = g.ts.length + 1) := HT.out.1.str2 (bel2 _ _ _) gs gr; clear gs gr x0 x1 x2 x3 x4 u0 u1 hcv; obtain ⟨x0, x1, x2, x3, x4⟩ := gb_cells A6.out.1; have fz := fz_of (o := 0) A6.out.1; have u0 : w6.cell? ⟨w.heap.size + 1, 0, none⟩ = some (.int .i64 2) := (cellq_any A6.out.2.2.1).trans rfl; have u1 : w6.cell? ⟨w.heap.size + 1, 1, none⟩ = some (.int .i64 0) := (cellq_any A6.out.2.2.1).trans rfl)
      | (at_builtin; refine wpList_PY_append_w rfl _ _ rfl (.slice g.pa g.ps.length g.pc) g.ps rfl (A6.out.2.1.py.later (bel2 _ _ _)) (w6.heap.size + 1) 1 (tabP w6.heap.size i) rfl (tabP_cells w6 _ _ _ i) (by have := HI.out; omega) ?_; intro a8 n8 c8 w8 gs gr; have A8 : Hid (w8.heap[w.heap.size + 1 + 1 + 1]? = some (gBox { g with ta := a6, tc := c6, ts := g.ts ++ [tnB i] }) /\ TbW w (w.heap.size + 1 + 1 + 1) (w.heap.size + 1) (w.heap.size + 1 + 1) { g with ta := a6, tc := c6, ts := g.ts ++ [tnB i], pa := a8, pc := c8, ps := g.ps ++ [tabP w6.heap.size i] } (w8.setCell ⟨w.heap.size + 1 + 1 + 1, 3, none⟩ (.slice a8 n8 c8)) /\ Below w.heap.size w w8 /\ n8 = g.ps.length + 1) := A6.out.2.1.prod2 (bel2 _ _ _) gs gr (tabP_yb w6 _ _ _ i); clear gs gr x0 x1 x2 x3 x4 u0 u1 fz; obtain ⟨x0, x1, x2, x3, x4⟩ := gb_cells A8.out.1; (try dsimp only at x0 x1 x2 x3 x4); have fz := fz_of (o := 3) A8.out.1; have cx := CX.out _ A8.out.2.2.1)
      | (at_builtin; refine wpList_LY_append_w rfl _ _ rfl (.slice g.la g.ls.length g.lc) g.ls rfl (A8.out.2.1.ly.later (bel2 _ _ _)) (w8.heap.size + 1) 1 (tabL w8.heap.size 2 i) rfl (tabL_cells w8 _ _ _ _ i) (by have := HI.out; omega) ?_; intro a9 n9 c9 w9 gs gr; have A9 : Hid (w9.heap[w.heap.size + 1 + 1 + 1]? = some (gBox { g with ta := a6, tc := c6, ts := g.ts ++ [tnB i], pa := a8, pc := c8, ps := g.ps ++ [tabP w6.heap.size i] }) /\ TbW w (w.heap.size + 1 + 1 + 1) (w.heap.size + 1) (w.heap.size + 1 + 1) { g with ta := a6, tc := c6, ts := g.ts ++ [tnB i], pa := a8, pc := c8, ps := g.ps ++ [tabP w6.heap.size i], la := a9, lc := c9, ls := g.ls ++ [tabL w8.heap.size 2 i] } (w9.setCell ⟨w.heap.size + 1 + 1 + 1, 4, none⟩ (.slice a9 n9 c9)) /\ n9 = g.ls.length + 1) := A8.out.2.1.lev2 (bel2 _ _ _) gs gr (tabL_nb w8 _ _ _ _ i); clear gs gr x0 x1 x2 x3 x4 fz; obtain ⟨x0, x1, x2, x3, x4⟩ := gb_cells A9.out.1; (try dsimp only at x0 x1 x2 x3 x4); have fz := fz_of (o := 4) A9.out.1))
     go_roundw
     case rel => exact ⟨i + 1, _, by omega, by go_num, A9.out.2.1, HT.out.2.next w6.heap.size w8.heap.size rfl rfl (by rw [AS.out])⟩
     case measure => simp [intOf]; omega
    ·by_cases t2 : av.tmod 3 = 2
     ·have e1 : (av.tmod 3 == 1) = false := by simp [t2]
      have e2 : (av.tmod 3 == 2) = true := by simp [t2]
      have AS : Hid (asU l i = 3) := by show _ = _; rw [HAS.out _ rfl, t2]; rfl
      go_wp2_with (first
       | (at_builtin; refine wpList_gs_append_w rfl _ _ rfl (.slice g.ta g.ts.length g.tc) g.ts rfl (HT.out.1.gs.later (bel2 _ _ _)) (wr.heap.size + 1) 1 (tnB i) rfl (tn_cell wr i _) (by omega) ?_; intro a6 n6 c6 w6 gs gr; have A6 : Hid (w6.heap[w.heap.size + 1 + 1 + 1]? = some (gBox g) /\ TbW w (w.heap.size + 1 + 1 + 1) (w.heap.size + 1) (w.heap.size + 1 + 1) { g with ta := a6, tc := c6, ts := g.ts ++ [tnB i] } (w6.setCell ⟨w.heap.size + 1 + 1 + 1, 0, none⟩ (.slice a6 n6 c6)) /\ w6.heap[w.heap.size + 1]? = some (.cells #[.int .i64 2, .int .i64 0] 113 (0, 0)) /\ Below w.heap.size w w6 /\ n6 = g.ts.length + 1) := HT.out.1.str2 (bel2 _ _ _) gs gr; clear gs gr x0 x1 x2 x3 x4 u0 u1 hcv; obtain ⟨x0, x1, x2, x3, x4⟩ := gb_cells A6.out.1; have fz := fz_of (o := 0) A6.out.1; have u0 : w6.cell? ⟨w.heap.size + 1, 0, none⟩ = some (.int .i64 2) := (cellq_any A6.out.2.2.1).trans rfl; have u1 : w6.cell? ⟨w.heap.size + 1, 1, none⟩ = some (.int .i64 0) := (cellq_any A6.out.2.2.1).trans rfl)
       | (at_builtin; refine wpList_PY_append_w rfl _ _ rfl (.slice g.pa g.ps.length g.pc) g.ps rfl (A6.out.2.1.py.later (bel2 _ _ _)) (w6.heap.size + 1) 1 (tabP w6.heap.size i) rfl (tabP_cells w6 _ _ _ i) (by have := HI.out; omega) ?_; intro a8 n8 c8 w8 gs gr; have A8 : Hid (w8.heap[w.heap.size + 1 + 1 + 1]? = some (gBox { g with ta := a6, tc := c6, ts := g.ts ++ [tnB i] }) /\ TbW w (w.heap.size + 1 + 1 + 1) (w.heap.size + 1) (w.heap.size + 1 + 1) { g with ta := a6, tc := c6, ts := g.ts ++ [tnB i], pa := a8, pc := c8, ps := g.ps ++ [tabP w6.heap.size i] } (w8.setCell ⟨w.heap.size + 1 + 1 + 1, 3, none⟩ (.slice a8 n8 c8)) /\ Below w.heap.size w w8 /\ n8 = g.ps.length + 1) := A6.out.2.1.prod2 (bel2 _ _ _) gs gr (tabP_yb w6 _ _ _ i); clear gs gr x0 x1 x2 x3 x4 u0 u1 fz; obtain ⟨x0, x1, x2, x3, x4⟩ := gb_cells A8.out.1; (try dsimp only at x0 x1 x2 x3 x4); have fz := fz_of (o := 3) A8.out.1; have cx := CX.out _ A8.out.2.2.1)
       | (at_builtin; refine wpList_LY_append_w rfl _ _ rfl (.slice g.la g.ls.length g.lc) g.ls rfl (A8.out.2.1.ly.later (bel2 _ _ _)) (w8.heap.size + 1) 1 (tabL w8.heap.size 3 i) rfl (tabL_cells w8 _ _ _ _ i) (by have := HI.out; omega) ?_; intro a9 n9 c9 w9 gs gr; have A9 : Hid (w9.heap[w.heap.size + 1 + 1 + 1]? = some (gBox { g with ta := a6, tc := c6, ts := g.ts ++ [tnB i], pa := a8, pc := c8, ps := g.ps ++ [tabP w6.heap.size i] }) /\ TbW w (w.heap.size + 1 + 1 + 1) (w.heap.size + 1) (w.heap.size + 1 + 1) { g with ta := a6, tc := c6, ts := g.ts ++ [tnB i], pa := a8, pc := c8, ps := g.ps ++ [tabP w6.heap.size i], la := a9, lc := c9, ls := g.ls ++ [tabL w8.heap.size 3 i] } (w9.setCell ⟨w.heap.size + 1 + 1 + 1, 4, none⟩ (.slice a9 n9 c9)) /\ n9 = g.ls.length + 1) := A8.out.2.1.lev2 (bel2 _ _ _) gs gr (tabL_nb w8 _ _ _ _ i); clear gs gr x0 x1 x2 x3 x4 fz; obtain ⟨x0, x1, x2, x3, x4⟩ := gb_cells A9.out.1; (try dsimp only at x0 x1 x2 x3 x4); have fz := fz_of (o := 4) A9.out.1))
      go_roundw
      case rel => exact ⟨i + 1, _, by omega, by go_num, A9.out.2.1, HT.out.2.next w6.heap.size w8.heap.size rfl rfl (by rw [AS.out])⟩
      case measure => simp [intOf]; omega
     ·have e1 : (av.tmod 3 == 1) = false := by simpa using t1
      have e2 : (av.tmod 3 == 2) = false := by simpa using t2
      have AS : Hid (asU l i = 1) := by show _ = _; rw [HAS.out _ rfl, if_neg t2, if_neg t1]
      go_wp2_with (first
       | (at_builtin; refine wpList_gs_append_w rfl _ _ rfl (.slice g.ta g.ts.length g.tc) g.ts rfl (HT.out.1.gs.later (bel2 _ _ _)) (wr.heap.size + 1) 1 (tnB i) rfl (tn_cell wr i _) (by omega) ?_; intro a6 n6 c6 w6 gs gr; have A6 : Hid (w6.heap[w.heap.size + 1 + 1 + 1]? = some (gBox g) /\ TbW w (w.heap.size + 1 + 1 + 1) (w.heap.size + 1) (w.heap.size + 1 + 1) { g with ta := a6, tc := c6, ts := g.ts ++ [tnB i] } (w6.setCell ⟨w.heap.size + 1 + 1 + 1, 0, none⟩ (.slice a6 n6 c6)) /\ w6.heap[w.heap.size + 1]? = some (.cells #[.int .i64 2, .int .i64 0] 113 (0, 0)) /\ Below w.heap.size w w6 /\ n6 = g.ts.length + 1) := HT.out.1.str2 (bel2 _ _ _) gs gr; clear gs gr x0 x1 x2 x3 x4 u0 u1 hcv; obtain ⟨x0, x1, x2, x3, x4⟩ := gb_cells A6.out.1; have fz := fz_of (o := 0) A6.out.1; have u0 : w6.cell? ⟨w.heap.size + 1, 0, none⟩ = some (.int .i64 2) := (cellq_any A6.out.2.2.1).trans rfl; have u1 : w6.cell? ⟨w.heap.size + 1, 1, none⟩ = some (.int .i64 0) := (cellq_any A6.out.2.2.1).trans rfl)
       | (at_builtin; refine wpList_PY_append_w rfl _ _ rfl (.slice g.pa g.ps.length g.pc) g.ps rfl (A6.out.2.1.py.later (bel2 _ _ _)) (w6.heap.size + 1) 1 (tabP w6.heap.size i) rfl (tabP_cells w6 _ _ _ i) (by have := HI.out; omega) ?_; intro a8 n8 c8 w8 gs gr; have A8 : Hid (w8.heap[w.heap.size + 1 + 1 + 1]? = some (gBox { g with ta := a6, tc := c6, ts := g.ts ++ [tnB i] }) /\ TbW w (w.heap.size + 1 + 1 + 1) (w.heap.size + 1) (w.heap.size + 1 + 1) { g with ta := a6, tc := c6, ts := g.ts ++ [tnB i], pa := a8, pc := c8, ps := g.ps ++ [tabP w6.heap.size i] } (w8.setCell ⟨w.heap.size + 1 + 1 + 1, 3, none⟩ (.slice a8 n8 c8)) /\ Below w.heap.size w w8 /\ n8 = g.ps.length + 1) := A6.out.2.1.prod2 (bel2 _ _ _) gs gr (tabP_yb w6 _ _ _ i); clear gs gr x0 x1 x2 x3 x4 u0 u1 fz; obtain ⟨x0, x1, x2, x3, x4⟩ := gb_cells A8.out.1; (try dsimp only at x0 x1 x2 x3 x4); have fz := fz_of (o := 3) A8.out.1; have cx := CX.out _ A8.out.2.2.1)
       | (at_builtin; refine wpList_LY_append_w rfl _ _ rfl (.slice g.la g.ls.length g.lc) g.ls rfl (A8.out.2.1.ly.later (bel2 _ _ _)) (w8.heap.size + 1) 1 (tabL w8.heap.size 1 i) rfl (tabL_cells w8 _ _ _ _ i) (by have := HI.out; omega) ?_; intro a9 n9 c9 w9 gs gr; have A9 : Hid (w9.heap[w.heap.size + 1 + 1 + 1]? = some (gBox { g with ta := a6, tc := c6, ts := g.ts ++ [tnB i], pa := a8, pc := c8, ps := g.ps ++ [tabP w6.heap.size i] }) /\ TbW w (w.heap.size + 1 + 1 + 1) (w.heap.size + 1) (w.heap.size + 1 + 1) { g with ta := a6, tc := c6, ts := g.ts ++ [tnB i], pa := a8, pc := c8, ps := g.ps ++ [tabP w6.heap.size i], la := a9, lc := c9, ls := g.ls ++ [tabL w8.heap.size 1 i] } (w9.setCell ⟨w.heap.size + 1 + 1 + 1, 4, none⟩ (.slice a9 n9 c9)) /\ n9 = g.ls.length + 1) := A8.out.2.1.lev2 (bel2 _ _ _) gs gr (tabL_nb w8 _ _ _ _ i); clear gs gr x0 x1 x2 x3 x4 fz; obtain ⟨x0, x1, x2, x3, x4⟩ := gb_cells A9.out.1; (try dsimp only at x0 x1 x2 x3 x4); have fz := fz_of (o := 4) A9.out.1))
      go_roundw
      case rel => exact ⟨i + 1, _, by omega, by go_num, A9.out.2.1, HT.out.2.next w6.heap.size w8.heap.size rfl rfl (by rw [AS.out])⟩
      case measure => simp [intOf]; omega
   ·have ill : ¬ (i : Int) < (l.length : Int) := by omega
    have HAS : Hid (asU l i = 1) := by
     show _ = _
     unfold asU
     rw [if_neg (by omega), if_neg (by omega)]
    have AS : Hid (asU l i = 1) := HAS.out
    go_wp2_with (first
     | (at_builtin; refine wpList_gs_append_w rfl _ _ rfl (.slice g.ta g.ts.length g.tc) g.ts rfl (HT.out.1.gs.later (bel2 _ _ _)) (wr.heap.size + 1) 1 (tnB i) rfl (tn_cell wr i _) (by omega) ?_; intro a6 n6 c6 w6 gs gr; have A6 : Hid (w6.heap[w.heap.size + 1 + 1 + 1]? = some (gBox g) /\ TbW w (w.heap.size + 1 + 1 + 1) (w.heap.size + 1) (w.heap.size + 1 + 1) { g with ta := a6, tc := c6, ts := g.ts ++ [tnB i] } (w6.setCell ⟨w.heap.size + 1 + 1 + 1, 0, none⟩ (.slice a6 n6 c6)) /\ w6.heap[w.heap.size + 1]? = some (.cells #[.int .i64 2, .int .i64 0] 113 (0, 0)) /\ Below w.heap.size w w6 /\ n6 = g.ts.length + 1) := HT.out.1.str2 (bel2 _ _ _) gs gr; clear gs gr x0 x1 x2 x3 x4 u0 u1 hcv; obtain ⟨x0, x1, x2, x3, x4⟩ := gb_cells A6.out.1; have fz := fz_of (o := 0) A6.out.1; have u0 : w6.cell? ⟨w.heap.size + 1, 0, none⟩ = some (.int .i64 2) := (cellq_any A6.out.2.2.1).trans rfl; have u1 : w6.cell? ⟨w.heap.size + 1, 1, none⟩ = some (.int .i64 0) := (cellq_any A6.out.2.2.1).trans rfl)
     | (at_builtin; refine wpList_PY_append_w rfl _ _ rfl (.slice g.pa g.ps.length g.pc) g.ps rfl (A6.out.2.1.py.later (bel2 _ _ _)) (w6.heap.size + 1) 1 (tabP w6.heap.size i) rfl (tabP_cells w6 _ _ _ i) (by have := HI.out; omega) ?_; intro a8 n8 c8 w8 gs gr; have A8 : Hid (w8.heap[w.heap.size + 1 + 1 + 1]? = some (gBox { g with ta := a6, tc := c6, ts := g.ts ++ [tnB i] }) /\ TbW w (w.heap.size + 1 + 1 + 1) (w.heap.size + 1) (w.heap.size + 1 + 1) { g with ta := a6, tc := c6, ts := g.ts ++ [tnB i], pa := a8, pc := c8, ps := g.ps ++ [tabP w6.heap.size i] } (w8.setCell ⟨w.heap.size + 1 + 1 + 1, 3, none⟩ (.slice a8 n8 c8)) /\ Below w.heap.size w w8 /\ n8 = g.ps.length + 1) := A6.out.2.1.prod2 (bel2 _ _ _) gs gr (tabP_yb w6 _ _ _ i); clear gs gr x0 x1 x2 x3 x4 u0 u1 fz; obtain ⟨x0, x1, x2, x3, x4⟩ := gb_cells A8.out.1; (try dsimp only at x0 x1 x2 x3 x4); have fz := fz_of (o := 3) A8.out.1; skip)
     | (at_builtin; refine wpList_LY_append_w rfl _ _ rfl (.slice g.la g.ls.length g.lc) g.ls rfl (A8.out.2.1.ly.later (bel2 _ _ _)) (w8.heap.size + 1) 1 (tabL w8.heap.size 1 i) rfl (tabL_cells w8 _ _ _ _ i) (by have := HI.out; omega) ?_; intro a9 n9 c9 w9 gs gr; have A9 : Hid (w9.heap[w.heap.size + 1 + 1 + 1]? = some (gBox { g with ta := a6, tc := c6, ts := g.ts ++ [tnB i], pa := a8, pc := c8, ps := g.ps ++ [tabP w6.heap.size i] }) /\ TbW w (w.heap.size + 1 + 1 + 1) (w.heap.size + 1) (w.heap.size + 1 + 1) { g with ta := a6, tc := c6, ts := g.ts ++ [tnB i], pa := a8, pc := c8, ps := g.ps ++ [tabP w6.heap.size i], la := a9, lc := c9, ls := g.ls ++ [tabL w8.heap.size 1 i] } (w9.setCell ⟨w.heap.size + 1 + 1 + 1, 4, none⟩ (.slice a9 n9 c9)) /\ n9 = g.ls.length + 1) := A8.out.2.1.lev2 (bel2 _ _ _) gs gr (tabL_nb w8 _ _ _ _ i); clear gs gr x0 x1 x2 x3 x4 fz; obtain ⟨x0, x1, x2, x3, x4⟩ := gb_cells A9.out.1; (try dsimp only at x0 x1 x2 x3 x4); have fz := fz_of (o := 4) A9.out.1))
    go_roundw
    case rel => exact ⟨i + 1, _, by omega, by go_num, A9.out.2.1, HT.out.2.next w6.heap.size w8.heap.size rfl rfl (by rw [AS.out])⟩
    case measure => simp [intOf]; omega
  ·have ilt : ¬ (i : Int) < (n : Int) := by omega
   obtain rfl : i = n := by omega
   have hz : g.ts.length <= 8 := by rw [HT.out.2.ts]; simp; omega
   have HI : Hid (i <= 8 /\ g.ps.length <= 8 /\ g.ls.length <= 8) := ⟨by omega, by rw [HT.out.2.pl]; omega, by rw [HT.out.2.ll]; omega⟩
   go_wp2_with (first
    | (at_builtin; refine wpList_gs_append_w rfl _ _ rfl (.slice g.ta g.ts.length g.tc) g.ts rfl (HT.out.1.gs.later (below_alloc _ _)) wr.heap.size 1 xB rfl ((cellq_any (heap_alloc_new _ _)).trans rfl) (by omega) ?_; intro a6 n6 c6 w6 gs gr; have A6 : Hid (w6.heap[w.heap.size + 1 + 1 + 1]? = some (gBox g) /\ TbW w (w.heap.size + 1 + 1 + 1) (w.heap.size + 1) (w.heap.size + 1 + 1) { g with ta := a6, tc := c6, ts := g.ts ++ [xB] } (w6.setCell ⟨w.heap.size + 1 + 1 + 1, 0, none⟩ (.slice a6 n6 c6)) /\ w6.heap[w.heap.size + 1]? = some (.cells #[.int .i64 2, .int .i64 0] 113 (0, 0)) /\ Below w.heap.size w w6 /\ n6 = g.ts.length + 1) := HT.out.1.str2 (below_alloc _ _) gs gr; clear gs gr x0 x1 x2 x3 x4; obtain ⟨x0, x1, x2, x3, x4⟩ := gb_cells A6.out.1; have fz := fz_of (o := 0) A6.out.1)
    | (at_builtin; refine wpList_PY_append_w rfl _ _ rfl (.slice g.pa g.ps.length g.pc) g.ps rfl (A6.out.2.1.py.later (bel2 _ _ _)) (w6.heap.size + 1) 1 (tabX w6.heap.size i) rfl (tabX_cells w6 _ _ _ i) (by have := HI.out; omega) ?_; intro a8 n8 c8 w8 gs gr; have A8 : Hid (w8.heap[w.heap.size + 1 + 1 + 1]? = some (gBox { g with ta := a6, tc := c6, ts := g.ts ++ [xB] }) /\ TbW w (w.heap.size + 1 + 1 + 1) (w.heap.size + 1) (w.heap.size + 1 + 1) { g with ta := a6, tc := c6, ts := g.ts ++ [xB], pa := a8, pc := c8, ps := g.ps ++ [tabX w6.heap.size i] } (w8.setCell ⟨w.heap.size + 1 + 1 + 1, 3, none⟩ (.slice a8 n8 c8)) /\ Below w.heap.size w w8 /\ n8 = g.ps.length + 1) := A6.out.2.1.prod2 (bel2 _ _ _) gs gr (tabX_yb w6 _ _ _ i); clear gs gr x0 x1 x2 x3 x4 fz; obtain ⟨x0, x1, x2, x3, x4⟩ := gb_cells A8.out.1; (try dsimp only at x0 x1 x2 x3 x4); have fz := fz_of (o := 3) A8.out.1; have Z8 : Hid (w8.heap[w.heap.size]? = some zG) := A8.out.2.1.rs0; obtain ⟨y0, y1, y2, y3, y4⟩ : w8.cell? ⟨w.heap.size, 0, none⟩ = some (.slice none 0 0) /\ w8.cell? ⟨w.heap.size, 1, none⟩ = some (.slice none 0 0) /\ w8.cell? ⟨w.heap.size, 2, none⟩ = some (.int .i64 0) /\ w8.cell? ⟨w.heap.size, 3, none⟩ = some (.slice none 0 0) /\ w8.cell? ⟨w.heap.size, 4, none⟩ = some (.slice none 0 0) := ⟨(cellq_any Z8.out).trans rfl, (cellq_any Z8.out).trans rfl, (cellq_any Z8.out).trans rfl, (cellq_any Z8.out).trans rfl, (cellq_any Z8.out).trans rfl⟩; have f0 := fz_of (o := 0) Z8.out; have f1 := fz_of (o := 1) Z8.out; have f2 := fz_of (o := 2) Z8.out; have f3 := fz_of (o := 3) Z8.out; have f4 := fz_of (o := 4) Z8.out))
   obtain ⟨_, A8b, _, n8e⟩ := A8.out
   subst n8e
   have TA := HT.out.2.fin (g' := { g with ta := a6, tc := c6, ts := g.ts ++ [xB], pa := a8, pc := c8, ps := g.ps ++ [tabX w6.heap.size i] }) w6.heap.size rfl rfl rfl HT.out.1.ns HT.out.1.st
   have R8 := A8b.rs
   obtain ⟨q1, q2, q3⟩ := five_set R8 (.slice a6 (g.ts.length + 1) c6) (.slice g.na g.ns.length g.nc) (.int .i64 g.start) (.slice a8 (g.ps.length + 1) c8) (.slice g.la g.ls.length g.lc)
   have q4 := q3 _ _ A8b.bel (Nat.le_refl _)
   have q5 := A8b.at2 TA (by have := HI.out; omega) (fun k C ty hk ht => q2 k (fun e => by
    subst e
    rw [R8] at hk
    simp at hk
    exact ht hk.2.symm))
   generalize (((((((w8.setCell ⟨w.heap.size + 1 + 1 + 1, 3, none⟩ (.slice a8 (g.ps.length + 1) c8)).setCell ⟨w.heap.size, 0, none⟩ (.slice a6 (g.ts.length + 1) c6)).setCell ⟨w.heap.size, 1, none⟩ (.slice g.na g.ns.length g.nc)).setCell ⟨w.heap.size, 2, none⟩ (.int .i64 g.start)).setCell ⟨w.heap.size, 3, none⟩ (.slice a8 (g.ps.length + 1) c8)).setCell ⟨w.heap.size, 4, none⟩ (.slice g.la g.ls.length g.lc))) = W9 at *
   have r0 : W9.cell? ⟨w.heap.size, 0, none⟩ = some (.slice a6 (g.ts.length + 1) c6) := (cellq_any q1).trans rfl
   have r1 : W9.cell? ⟨w.heap.size, 1, none⟩ = some (.slice g.na g.ns.length g.nc) := (cellq_any q1).trans rfl
   have r2 : W9.cell? ⟨w.heap.size, 2, none⟩ = some (.int .i64 g.start) := (cellq_any q1).trans rfl
   have r3 : W9.cell? ⟨w.heap.size, 3, none⟩ = some (.slice a8 (g.ps.length + 1) c8) := (cellq_any q1).trans rfl
   have r4 : W9.cell? ⟨w.heap.size, 4, none⟩ = some (.slice g.la g.ls.length g.lc) := (cellq_any q1).trans rfl
   refine bodyPost_ret (v := .agg #[.slice a6 (g.ts.length + 1) c6, .slice g.na g.ns.length g.nc, .int .i64 g.start, .slice a8 (g.ps.length + 1) c8, .slice g.la g.ls.length g.lc]) (by simp [results, Try.results28, go_sem, r0, r1, r2, r3, r4]) rfl ?_
   refine ⟨_, ?_, TA, q5.1, q5.2, q4⟩
   simp
end Go.Proofs.Ytlkkllehaabebaa
