import Derived.Test.YtpbpombjndlnbaaGreatPFN4ToFN7
import Derived.Test.YtpbpombjndlnbaaGreatPGG1ToGWB
import Derived.Test.YtpbpombjndlnbaaGreatPHByteToGIntactB
import Derived.Test.YtpbpombjndlnbaaGreatPFW1
import Derived.Test.YtpbpombjndlnbaaGreatPFSamToFClo
import Derived.Test.YtpbpombjndlnbaaGreatPGDec12ToGDec14
namespace Go.Proofs.YtpbpombjndlnbaaGreat
set_option linter.unusedVariables false
set_option maxRecDepth 100000
set_option maxHeartbeats 16000000
open Go.RowKit
theorem core_lr {p q : PV} (h : p.core = q.core) : p.left = q.left /\ p.right = q.right := by
 unfold PV.core at h
 simp only [Prod.mk.injEq] at h
 exact ⟨h.1, h.2.1⟩
theorem foldl_core {β : Type} (f : β -> PV -> β) (hf : ∀ b p q, p.left = q.left -> p.right = q.right -> f b p = f b q) : ∀ (ps qs : List PV) (b : β), qs.map PV.core = ps.map PV.core -> qs.foldl f b = ps.foldl f b
 | [], [], _, _ => rfl
 | [], q :: qs, _, h => by simp at h
 | p :: ps, [], _, h => by simp at h
 | p :: ps, q :: qs, b, h => by
  simp only [List.map_cons, List.cons.injEq] at h
  have e := core_lr h.1
  rw [List.foldl_cons, List.foldl_cons, hf b q p e.1 e.2]
  exact foldl_core f hf ps qs _ h.2
theorem mem_core {ps qs : List PV} (h : qs.map PV.core = ps.map PV.core) {p : PV} (hp : p ∈ ps) : ∃ q ∈ qs, q.left = p.left /\ q.right = p.right := by
 have : p.core ∈ qs.map PV.core := by rw [h]; exact List.mem_map_of_mem hp
 obtain ⟨q, hq, e⟩ := List.mem_map.1 this
 exact ⟨q, hq, core_lr e⟩
section
variable {g x : GV}
theorem same_ht (h : SameG g x) (n : Nat) : ∀ k, htU x.ps n k = htU g.ps n k
 | 0 => rfl
 | k + 1 => by
  show hRound x.ps (htU x.ps n k) k = hRound g.ps (htU g.ps n k) k
  rw [same_ht h n k]
  exact foldl_core _ (fun b p q e1 e2 => by unfold hStep; rw [e1, e2]) g.ps x.ps _ h.ps
theorem same_null (h : SameG g x) (n : Nat) : nullU x.ps n = nullU g.ps n := by unfold nullU; rw [same_ht h]
theorem same_round (h : SameG g x) (N : List Bool) (F : List BS) : roundS N x.ps F = roundS N g.ps F := foldl_core _ (fun b p q e1 e2 => by unfold rStep; rw [e1, e2]) g.ps x.ps _ h.ps
theorem same_iter (h : SameG g x) (N : List Bool) (F : List BS) : ∀ k, iterS N x.ps F k = iterS N g.ps F k
 | 0 => rfl
 | k + 1 => by
  show roundS N x.ps (iterS N x.ps F k) = roundS N g.ps (iterS N g.ps F k)
  rw [same_iter h N F k, same_round h]
theorem same_least (h : SameG g x) {F : List BS} (hF : LeastF x F) : LeastF g F := by
 obtain ⟨k, h1, h2, h3, h4⟩ := hF
 rw [h.ns] at h1 h2 h4
 rw [same_null h] at h1 h2
 exact ⟨k, by rw [h1, same_iter h], by rw [<- same_round h]; exact h2, h3, h4⟩
theorem same_clos (h : SameG g x) {N : List Bool} {F E : List BS} : ClosW N F x.ps E ↔ ClosW N F g.ps E := by
 constructor
 ·intro hc p hp r1 s r2 e hs
  obtain ⟨q, hq, e1, e2⟩ := mem_core h.ps hp
  have := hc q hq r1 s r2 (by rw [e2]; exact e) hs
  rwa [e1] at this
 ·intro hc p hp r1 s r2 e hs
  obtain ⟨q, hq, e1, e2⟩ := mem_core h.ps.symm hp
  have := hc q hq r1 s r2 (by rw [e2]; exact e) hs
  rwa [e1] at this
theorem same_lst (h : SameG g x) {F E : List BS} (hE : LstW x F E) : LstW g F E := by
 obtain ⟨h1, h2, h3, h4, h5⟩ := hE
 rw [h.ns] at h1 h4 h5
 rw [h.start, h.ts] at h3 h5
 rw [same_null h] at h4 h5
 exact ⟨h1, h2, h3, (same_clos h).1 h4, fun E' q1 q2 => h5 E' q1 ((same_clos h).2 q2)⟩
end
theorem LeastF.uniq {g : GV} (hg : GP g) {F G : List BS} (hF : LeastF g F) (hG : LeastF g G) : F = G := by
 have a := hF.within (fun _ q => q) (hG.closed hg)
 have b := hG.within (fun _ q => q) (hF.closed hg)
 obtain ⟨_, _, _, f1, f2⟩ := hF
 obtain ⟨_, _, _, g1, g2⟩ := hG
 exact eqF_of (by rw [f2, g2]) f1 g1 a b
structure LQ (g x : GV) (w : World) (V : Nat -> Value) (E : Nat -> List HE) (xb nb fb eb kb : Nat) (F E2 : List BS) (wr : World) : Prop where
 tw : TW g x w V E (0 + g.ls.length) wr
 bx : wr.heap[xb]? = some (gBox x)
 n : BB wr nb (nullU g.ps g.ns.length)
 f : LsRow wr (some ⟨fb, 0, none⟩) (listsU F)
 e : LsRow wr (some ⟨eb, 0, none⟩) (listsU E2)
 k : KB wr kb (htU g.ps g.ns.length g.ns.length)
theorem LQ.later {g x : GV} {w wr w' : World} {V : Nat -> Value} {E : Nat -> List HE} {xb nb fb eb kb : Nat} {F E2 : List BS} (h : LQ g x w V E xb nb fb eb kb F E2 wr) (hb : Below wr.heap.size wr w') : LQ g x w V E xb nb fb eb kb F E2 w' :=
 ⟨h.tw.later hb, blk_later h.bx hb, h.n.later hb, h.f.later hb, h.e.later hb, h.k.later hb⟩
theorem least_no (g : GV) (w : World) (h : GAt 140737488355328 w g) (hfi : GFine g) (er at_ : Int) (hE : checkG g (checkF g.ts g.ns) = (er, at_)) (h0 : er ≠ 0) :
  Calls Tryz.prog 3 #[g.val] w fun e w' => e = .returned (.bool true) /\ Below w.heap.size w w' := by
 have X0 : Hid ((w.alloc (gBox g)).heap[w.heap.size]? = some (gBox g)) := heap_alloc_new _ _
 have H0 : Hid (HG (w.heap.size + 1) (w.alloc (gBox g)) ((w.alloc (gBox g)).alloc gvBoxT) (w.heap.size + 1) (fun _ => hNil) (fun _ => []) 0 0 0) := by
  have := hg_newT (w.heap.size + 1) (w.alloc (gBox g)) (w.alloc (gBox g)) (Below.refl _ _) (by simp)
  rw [show (w.alloc (gBox g)).heap.size = w.heap.size + 1 by simp] at this
  exact this
 have B0 : Hid (∀ wr, Below (w.heap.size + 1) (w.alloc (gBox g)) wr -> Below w.heap.size w wr /\ wr.heap[w.heap.size]? = some (gBox g) /\ GAt 140737488355328 wr g) := fun wr hb => by
  have b1 : Below w.heap.size w wr := (below_alloc w _).trans (hb.mono (by omega))
  exact ⟨b1, (hb.block _ (by omega)).trans (heap_alloc_new _ _), h.later b1⟩
 have HFI : Hid (GFine g) := hfi
 have HXA : Hid (∀ x V E n1 wr, TW g x w V E n1 wr -> GAt 140737488355328 wr x /\ x.ps.length <= x.pc /\ SameG g x) := fun x V E n1 wr k => ⟨(k.gx.at k.same h).1, (k.gx.at k.same h).2, k.same⟩
 have MY : Hid (∀ wr, Below w.heap.size w wr -> Calls Tryz.prog 9 #[g.val] wr fun e w' => e = .returned (.int .i64 er) /\ Below wr.heap.size wr w') := fun wr hb => by
  have := refmay_G g wr (h.later hb)
  rwa [hE] at this
 have HE : Hid (checkG g (checkF g.ts g.ns) = (er, at_)) := hE
 obtain ⟨x0, x1, x2, x3, x4⟩ := gb_cells (b := w.heap.size) (w' := (w.alloc (gBox g)).alloc gvBoxT) (((below_alloc (w.alloc (gBox g)) gvBoxT).block _ (by simp)).trans X0.out)
 have NC : Hid (∀ x V E n1 wr, TW g x w V E n1 wr -> Calls Tryz.prog 5 #[x.val] wr fun e w' => e = .returned (.tuple #[.slice none 0 0, .int .i64 er]) /\ Below wr.heap.size wr w') := fun x V E n1 wr k => nullable_no x wr (HXA.out _ _ _ _ _ k).1 (HXA.out _ _ _ _ _ k).2.1 er at_ ((same_check k.same).trans HE.out) h0
 have FC : Hid (∀ x V E n1 wr, TW g x w V E n1 wr -> Calls Tryz.prog 6 #[x.val] wr fun e w' => e = .returned (.tuple #[.slice none 0 0, .int .i64 er]) /\ Below wr.heap.size wr w') := fun x V E n1 wr k => first_no x wr (HXA.out _ _ _ _ _ k).1 (HXA.out _ _ _ _ _ k).2.1 er at_ ((same_check k.same).trans HE.out) h0
 have WC : Hid (∀ x V E n1 wr, TW g x w V E n1 wr -> Calls Tryz.prog 7 #[x.val] wr fun e w' => e = .returned (.tuple #[.slice none 0 0, .int .i64 er]) /\ Below wr.heap.size wr w') := fun x V E n1 wr k => follow_no x wr (HXA.out _ _ _ _ _ k).1 (HXA.out _ _ _ _ _ k).2.1 er at_ ((same_check k.same).trans HE.out) h0
 have HC : Hid (∀ x V E n1 wr, TW g x w V E n1 wr -> Calls Tryz.prog 8 #[x.val] wr fun e w' => e = .returned (.tuple #[.slice none 0 0, .int .i64 er]) /\ Below wr.heap.size wr w') := fun x V E n1 wr k => heights_no x wr (HXA.out _ _ _ _ _ k).1 (HXA.out _ _ _ _ _ k).2.1 er at_ ((same_check k.same).trans HE.out) h0
 have t1 : (er != 0) = true := by simpa using h0
 have t2 : (er != er) = false := by simp
 clear h hfi hE h0
 go_enter Tryz.func3, Tryz.ntmps3
 go_wp2_with (first
  | (go_at_call 4; refine (hg_gram H0.out (by omega) (by omega) (by omega) g HFI.out (fun wr hb => (B0.out wr (H0.out.bel.trans hb)).2.2)).mono ?_; rintro e w1 ⟨x, rfl, hs, hx, ho⟩; obtain ⟨V1, E1, k1⟩ := ho.ex; have A1 : Hid (TW g x w V1 E1 (0 + g.ls.length) (w1.alloc (gBox x)) /\ (w1.alloc (gBox x)).heap[w1.heap.size]? = some (gBox x)) := ⟨TW.later ⟨(B0.out w1 (H0.out.bel.trans ho.bel)).1, (B0.out w1 (H0.out.bel.trans ho.bel)).2.1, k1, hs, hx⟩ (below_alloc _ _), heap_alloc_new _ _⟩; clear hs hx ho k1 x0 x1 x2 x3 x4)
  | (go_at_call 5; refine (NC.out x _ _ _ _ A1.out.1).mono ?_; rintro e w2 ⟨rfl, b2⟩; have A2 : Hid (TW g x w V1 E1 (0 + g.ls.length) w2 /\ w2.heap[w1.heap.size]? = some (gBox x)) := ⟨A1.out.1.later b2, blk_later A1.out.2 b2⟩; clear b2; obtain ⟨y0, y1, y2, y3, y4⟩ := gb_cells A2.out.2)
  | (go_at_call 6; refine (FC.out x _ _ _ _ A2.out.1).mono ?_; rintro e w3 ⟨rfl, b3⟩; have A3 : Hid (TW g x w V1 E1 (0 + g.ls.length) w3 /\ w3.heap[w1.heap.size]? = some (gBox x)) := ⟨A2.out.1.later b3, blk_later A2.out.2 b3⟩; clear b3 y0 y1 y2 y3 y4; obtain ⟨y0, y1, y2, y3, y4⟩ := gb_cells A3.out.2)
  | (go_at_call 7; refine (WC.out x _ _ _ _ A3.out.1).mono ?_; rintro e w4 ⟨rfl, b4⟩; have A4 : Hid (TW g x w V1 E1 (0 + g.ls.length) w4 /\ w4.heap[w1.heap.size]? = some (gBox x)) := ⟨A3.out.1.later b4, blk_later A3.out.2 b4⟩; clear b4 y0 y1 y2 y3 y4; obtain ⟨y0, y1, y2, y3, y4⟩ := gb_cells A4.out.2)
  | (go_at_call 8; refine (HC.out x _ _ _ _ A4.out.1).mono ?_; rintro e w5 ⟨rfl, b5⟩; have A5 : Hid (TW g x w V1 E1 (0 + g.ls.length) w5) := A4.out.1.later b5; clear b5 y0 y1 y2 y3 y4; obtain ⟨y0, y1, y2, y3, y4⟩ := gb_cells A5.out.box)
  | (go_at_call 9; refine (MY.out w5 A5.out.bel).mono ?_; rintro e w6 ⟨rfl, b6⟩; have A6 : Hid (TW g x w V1 E1 (0 + g.ls.length) w6) := A5.out.later b6; clear b6 y0 y1 y2 y3 y4)
  | (go_at_call 10; refine (gintact _ V1 tyG E1 w6 A6.out.hg.inv A6.out.hg.st (by have := A6.out.hg.l1; have := HFI.out.ll; omega) (by have := A6.out.hg.l2; omega) (by have := A6.out.hg.l4; have := HFI.out.pl; omega)).mono ?_; rintro e w7 ⟨rfl, b7⟩; have A7 : Hid (TW g x w V1 E1 (0 + g.ls.length) w7) := A6.out.later b7; clear b7)
  | (go_at_call 12; refine (works_S w7).mono ?_; rintro e w8 ⟨rfl, b8⟩; have A8 : Hid (TW g x w V1 E1 (0 + g.ls.length) w8) := A7.out.later b8; clear b8)
  | (go_at_call 11; refine (num_S _ _).mono ?_; rintro e w9 ⟨rfl, rfl⟩))
 go_ret
 exact ⟨rfl, A8.out.bel⟩
theorem least_ok (g : GV) (w : World) (h : GAt 140737488355328 w g) (hfi : GFine g) (hcap : ∀ p ∈ g.ps, p.right.length <= p.rc) (at_ : Int) (hE' : checkG g (checkF g.ts g.ns) = (0, at_)) :
  Calls Tryz.prog 3 #[g.val] w fun e w' => e = .returned (.bool true) /\ Below w.heap.size w w' := by
 obtain ⟨er, her⟩ : ∃ er : Int, er = 0 := ⟨0, rfl⟩
 have hE : checkG g (checkF g.ts g.ns) = (er, at_) := by rw [her]; exact hE'
 have ok : OkC g := OkC.of (by rw [hE'])
 have X0 : Hid ((w.alloc (gBox g)).heap[w.heap.size]? = some (gBox g)) := heap_alloc_new _ _
 have H0 : Hid (HG (w.heap.size + 1) (w.alloc (gBox g)) ((w.alloc (gBox g)).alloc gvBoxT) (w.heap.size + 1) (fun _ => hNil) (fun _ => []) 0 0 0) := by
  have := hg_newT (w.heap.size + 1) (w.alloc (gBox g)) (w.alloc (gBox g)) (Below.refl _ _) (by simp)
  rw [show (w.alloc (gBox g)).heap.size = w.heap.size + 1 by simp] at this
  exact this
 have B0 : Hid (∀ wr, Below (w.heap.size + 1) (w.alloc (gBox g)) wr -> Below w.heap.size w wr /\ wr.heap[w.heap.size]? = some (gBox g) /\ GAt 140737488355328 wr g) := fun wr hb => by
  have b1 : Below w.heap.size w wr := (below_alloc w _).trans (hb.mono (by omega))
  exact ⟨b1, (hb.block _ (by omega)).trans (heap_alloc_new _ _), h.later b1⟩
 have HFI : Hid (GFine g) := hfi
 have HXA : Hid (∀ x V E n1 wr, TW g x w V E n1 wr -> GAt 140737488355328 wr x /\ x.ps.length <= x.pc /\ SameG g x) := fun x V E n1 wr k => ⟨(k.gx.at k.same h).1, (k.gx.at k.same h).2, k.same⟩
 have MY : Hid (∀ wr, Below w.heap.size w wr -> Calls Tryz.prog 9 #[g.val] wr fun e w' => e = .returned (.int .i64 er) /\ Below wr.heap.size wr w') := fun wr hb => by
  have := refmay_G g wr (h.later hb)
  rwa [hE] at this
 have HE : Hid (checkG g (checkF g.ts g.ns) = (er, at_)) := hE
 obtain ⟨x0, x1, x2, x3, x4⟩ := gb_cells (b := w.heap.size) (w' := (w.alloc (gBox g)).alloc gvBoxT) (((below_alloc (w.alloc (gBox g)) gvBoxT).block _ (by simp)).trans X0.out)
 have HN1 : Hid (∀ x, SameG g x -> checkG x (checkF x.ts x.ns) = (0, at_)) := fun x hs => (same_check hs).trans hE'
 have HFG : Hid (∀ wr, Below w.heap.size w wr -> FG wr g) := fun wr hb => ok.fg (h.later hb)
 have NC : Hid (∀ x V E n1 wr, TW g x w V E n1 wr -> Calls Tryz.prog 5 #[x.val] wr fun e w' => ∃ nb, e = .returned (.tuple #[.slice (some ⟨nb, 0, none⟩) g.ns.length g.ns.length, .int .i64 0]) /\ BB w' nb (nullU g.ps g.ns.length) /\ Below wr.heap.size wr w') := fun x V E n1 wr k => by
  have := nullable_ok x wr (HXA.out _ _ _ _ _ k).1 (HXA.out _ _ _ _ _ k).2.1 at_ (HN1.out x k.same)
  rw [k.same.ns, same_null k.same] at this
  exact this.mono fun e w' ⟨nb, q1, q2, _, q3⟩ => ⟨nb, q1, q2, q3⟩
 have FC : Hid (∀ x V E n1 wr, TW g x w V E n1 wr -> Calls Tryz.prog 6 #[x.val] wr fun e w' => ∃ b F, LeastF g F /\ e = .returned (.tuple #[.slice (some ⟨b, 0, none⟩) g.ns.length g.ns.length, .int .i64 0]) /\ LsRow w' (some ⟨b, 0, none⟩) (listsU F) /\ Below wr.heap.size wr w') := fun x V E n1 wr k => by
  have := first_ok x wr (HXA.out _ _ _ _ _ k).1 (HXA.out _ _ _ _ _ k).2.1 at_ (HN1.out x k.same)
  rw [k.same.ns] at this
  refine this.mono fun e w' ⟨b, F, q1, q2, q3, _, q4⟩ => ⟨b, F, same_least k.same q1, q2, LLk.row ?_, q4⟩
  have hl : (listsU F).length = g.ns.length := by obtain ⟨_, _, _, _, e4⟩ := same_least k.same q1; simp [listsU, e4]
  rw [hl]; exact q3
 have WC : Hid (∀ x V E n1 wr, TW g x w V E n1 wr -> Calls Tryz.prog 7 #[x.val] wr fun e w' => ∃ b F E2, LeastF g F /\ LstW g F E2 /\ e = .returned (.tuple #[.slice (some ⟨b, 0, none⟩) g.ns.length g.ns.length, .int .i64 0]) /\ LsRow w' (some ⟨b, 0, none⟩) (listsU E2) /\ Below wr.heap.size wr w') := fun x V E n1 wr k => by
  have := follow_ok x wr (HXA.out _ _ _ _ _ k).1 (HXA.out _ _ _ _ _ k).2.1 at_ (HN1.out x k.same)
  rw [k.same.ns] at this
  refine this.mono fun e w' ⟨b, F, E2, q0, q1, q2, q3, _, q4⟩ => ⟨b, F, E2, same_least k.same q0, same_lst k.same q1, q2, LLk.row ?_, q4⟩
  have hl : (listsU E2).length = g.ns.length := by simp [listsU, (same_lst k.same q1).len]
  rw [hl]; exact q3
 have HC : Hid (∀ x V E n1 wr, TW g x w V E n1 wr -> Calls Tryz.prog 8 #[x.val] wr fun e w' => ∃ kb, e = .returned (.tuple #[.slice (some ⟨kb, 0, none⟩) g.ns.length g.ns.length, .int .i64 0]) /\ KB w' kb (htU g.ps g.ns.length g.ns.length) /\ Below wr.heap.size wr w') := fun x V E n1 wr k => by
  have := heights_ok x wr (HXA.out _ _ _ _ _ k).1 (HXA.out _ _ _ _ _ k).2.1 at_ (HN1.out x k.same)
  rw [k.same.ns, same_ht k.same] at this
  exact this.mono fun e w' ⟨nb, q1, q2, _, q3⟩ => ⟨nb, q1, q2, q3⟩
 have HGP : Hid (GP g) := (ok.fg h).gp
 have RFo : Hid (∀ wr F E2, Below w.heap.size w wr -> LeastF g F -> LstW g F E2 -> Calls Tryz.prog 17 #[g.val] wr fun e w' => ∃ b, e = .returned (.slice (some ⟨b, 0, none⟩) g.ns.length g.ns.length) /\ RF w' b E2 /\ wr.heap.size <= b /\ Below wr.heap.size wr w') := fun wr F E2 hb hF hE2 => rfollow_S g wr (HFG.out wr hb) ok.st hcap F E2 hF hE2
 have HNL : Hid (g.ns.length <= 64) := ok.nl.2
 have SB : Hid (∀ wr a b, BB wr a (nullU g.ps g.ns.length) -> BB wr b (nullU g.ps g.ns.length) -> Calls Tryz.prog 13 #[.slice (some ⟨a, 0, none⟩) g.ns.length g.ns.length, .slice (some ⟨b, 0, none⟩) g.ns.length g.ns.length] wr fun e w' => e = .returned (.bool true) /\ Below wr.heap.size wr w') := fun wr a b h1 h2 => by
  have := samebools_S (some ⟨a, 0, none⟩) (some ⟨b, 0, none⟩) g.ns.length g.ns.length (nullU g.ps g.ns.length) wr (by rw [nullU_len]; have := HNL.out; omega) h1.row h2.row
  rw [nullU_len] at this
  exact this.mono fun e w' ⟨q1, d, q2⟩ => ⟨q1, by rw [q2]; exact below_drewN (Below.refl _ _) _⟩
 have SL : Hid (∀ wr a b (G : List BS), G.length = g.ns.length -> LsRow wr (some ⟨a, 0, none⟩) (listsU G) -> LsRow wr (some ⟨b, 0, none⟩) (listsU G) -> Calls Tryz.prog 15 #[.slice (some ⟨a, 0, none⟩) g.ns.length g.ns.length, .slice (some ⟨b, 0, none⟩) g.ns.length g.ns.length] wr fun e w' => e = .returned (.bool true) /\ Below wr.heap.size wr w') := fun wr a b G hl h1 h2 => by
  have e1 : (listsU G).length = g.ns.length := by simp [listsU, hl]
  have := samelists_S (some ⟨a, 0, none⟩) (some ⟨b, 0, none⟩) g.ns.length g.ns.length (listsU G) wr (by rw [e1]; have := HNL.out; omega) (fun l hl => by obtain ⟨s, _, rfl⟩ := List.mem_map.1 hl; exact Nat.le_trans (listS_len s 128) (by omega)) h1 h2
  rwa [e1] at this
 have SI : Hid (∀ wr a b c, KB wr a (htU g.ps g.ns.length g.ns.length) -> InRow wr (some ⟨b, 0, none⟩) (htU g.ps g.ns.length g.ns.length) -> Calls Tryz.prog 18 #[.slice (some ⟨a, 0, none⟩) g.ns.length g.ns.length, .slice (some ⟨b, 0, none⟩) g.ns.length c] wr fun e w' => e = .returned (.bool true) /\ Below wr.heap.size wr w') := fun wr a b c h1 h2 => by
  have := sameints_g (some ⟨a, 0, none⟩) (some ⟨b, 0, none⟩) g.ns.length g.ns.length g.ns.length c (htU g.ps g.ns.length g.ns.length) wr (htU_len _ _ _).symm (htU_len _ _ _).symm (by rw [htU_len]; have := HNL.out; omega) h1.row h2
  exact this.mono fun e w' ⟨q1, d, q2⟩ => ⟨q1, by rw [q2]; exact below_drewN (Below.refl _ _) _⟩
 subst her
 have t1 : ((0 : Int) != 0) = false := by decide
 have T0 : Hid True := trivial
 clear h hfi hE hE' hcap ok
 go_enter Tryz.func3, Tryz.ntmps3
 go_wp2_with (first
  | (go_at_call 4; refine (hg_gram H0.out (by omega) (by omega) (by omega) g HFI.out (fun wr hb => (B0.out wr (H0.out.bel.trans hb)).2.2)).mono ?_; rintro e w1 ⟨x, rfl, hs, hx, ho⟩; obtain ⟨V1, E1, k1⟩ := ho.ex; have A1 : Hid (TW g x w V1 E1 (0 + g.ls.length) (w1.alloc (gBox x)) /\ (w1.alloc (gBox x)).heap[w1.heap.size]? = some (gBox x)) := ⟨TW.later ⟨(B0.out w1 (H0.out.bel.trans ho.bel)).1, (B0.out w1 (H0.out.bel.trans ho.bel)).2.1, k1, hs, hx⟩ (below_alloc _ _), heap_alloc_new _ _⟩; clear hs hx ho k1 x0 x1 x2 x3 x4)
  | (go_at_call 5; refine (NC.out x _ _ _ _ A1.out.1).mono ?_; rintro e w2 ⟨nb, rfl, n2, b2⟩; have A2 : Hid (TW g x w V1 E1 (0 + g.ls.length) w2 /\ w2.heap[w1.heap.size]? = some (gBox x) /\ BB w2 nb (nullU g.ps g.ns.length)) := ⟨A1.out.1.later b2, blk_later A1.out.2 b2, n2⟩; clear b2 n2; obtain ⟨y0, y1, y2, y3, y4⟩ := gb_cells A2.out.2.1)
  | (go_at_call 6; refine (FC.out x _ _ _ _ A2.out.1).mono ?_; rintro e w3 ⟨fb, F, hF, rfl, n3, b3⟩; have HLF : Hid (LeastF g F) := hF; have A3 : Hid (TW g x w V1 E1 (0 + g.ls.length) w3 /\ w3.heap[w1.heap.size]? = some (gBox x) /\ BB w3 nb (nullU g.ps g.ns.length) /\ LsRow w3 (some ⟨fb, 0, none⟩) (listsU F)) := ⟨A2.out.1.later b3, blk_later A2.out.2.1 b3, A2.out.2.2.later b3, n3⟩; clear hF b3 n3 y0 y1 y2 y3 y4; obtain ⟨y0, y1, y2, y3, y4⟩ := gb_cells A3.out.2.1)
  | (go_at_call 7; refine (WC.out x _ _ _ _ A3.out.1).mono ?_; rintro e w4 ⟨eb, F', E2, hF', hE2, rfl, n4, b4⟩; have HLW : Hid (LstW g F E2) := (by rw [HLF.out.uniq HGP.out hF']; exact hE2); have A4 : Hid (TW g x w V1 E1 (0 + g.ls.length) w4 /\ w4.heap[w1.heap.size]? = some (gBox x) /\ BB w4 nb (nullU g.ps g.ns.length) /\ LsRow w4 (some ⟨fb, 0, none⟩) (listsU F) /\ LsRow w4 (some ⟨eb, 0, none⟩) (listsU E2)) := ⟨A3.out.1.later b4, blk_later A3.out.2.1 b4, A3.out.2.2.1.later b4, A3.out.2.2.2.later b4, n4⟩; clear hF' hE2 b4 n4 y0 y1 y2 y3 y4; obtain ⟨y0, y1, y2, y3, y4⟩ := gb_cells A4.out.2.1)
  | (go_at_call 8; refine (HC.out x _ _ _ _ A4.out.1).mono ?_; rintro e w5 ⟨kb, rfl, n5, b5⟩; have A5 : Hid (LQ g x w V1 E1 w1.heap.size nb fb eb kb F E2 w5) := ⟨A4.out.1.later b5, blk_later A4.out.2.1 b5, A4.out.2.2.1.later b5, A4.out.2.2.2.1.later b5, A4.out.2.2.2.2.later b5, n5⟩; clear b5 n5 y0 y1 y2 y3 y4; obtain ⟨y0, y1, y2, y3, y4⟩ := gb_cells A5.out.tw.box)
  | (go_at_call 9; refine (MY.out w5 A5.out.tw.bel).mono ?_; rintro e w6 ⟨rfl, b6⟩; have A6 : Hid (LQ g x w V1 E1 w1.heap.size nb fb eb kb F E2 w6) := A5.out.later b6; clear b6 y0 y1 y2 y3 y4)
  | (go_at_call 10; refine (gintact _ V1 tyG E1 w6 A6.out.tw.hg.inv A6.out.tw.hg.st (by have := A6.out.tw.hg.l1; have := HFI.out.ll; omega) (by have := A6.out.tw.hg.l2; omega) (by have := A6.out.tw.hg.l4; have := HFI.out.pl; omega)).mono ?_; rintro e w7 ⟨rfl, b7⟩; have A7 : Hid (LQ g x w V1 E1 w1.heap.size nb fb eb kb F E2 w7) := A6.out.later b7; clear b7)
  | (go_at_call 12; refine (works_S w7).mono ?_; rintro e w8 ⟨rfl, b8⟩; have A8 : Hid (LQ g x w V1 E1 w1.heap.size nb fb eb kb F E2 w8) := A7.out.later b8; clear b8; obtain ⟨y0, y1, y2, y3, y4⟩ := gb_cells A8.out.tw.box)
  | (go_at_call 11; refine (num_S _ _).mono ?_; rintro e w9 ⟨rfl, rfl⟩)
  | (go_at_call 14; refine (rnull_S g w8 (HFG.out _ A8.out.tw.bel)).mono ?_; rintro e w9 ⟨rb, rfl, n9, -, b9⟩; have A9 : Hid (LQ g x w V1 E1 w1.heap.size nb fb eb kb F E2 w9 /\ BB w9 rb (nullU g.ps g.ns.length)) := ⟨A8.out.later b9, n9⟩; clear n9 b9 y0 y1 y2 y3 y4)
  | (go_at_call 13; refine (SB.out w9 nb rb A9.out.1.n A9.out.2).mono ?_; rintro e w10 ⟨rfl, b10⟩; have A10 : Hid (LQ g x w V1 E1 w1.heap.size nb fb eb kb F E2 w10) := A9.out.1.later b10; clear b10; obtain ⟨y0, y1, y2, y3, y4⟩ := gb_cells A10.out.tw.box)
  | (go_at_call 16; refine (rfirst_S g w10 (HFG.out _ A10.out.tw.bel) F HLF.out).mono ?_; rintro e w11 ⟨rc, rfl, n11, -, b11⟩; have A11 : Hid (LQ g x w V1 E1 w1.heap.size nb fb eb kb F E2 w11 /\ LsRow w11 (some ⟨rc, 0, none⟩) (listsU F)) := ⟨A10.out.later b11, n11.row⟩; clear n11 b11 y0 y1 y2 y3 y4)
  | (go_at_call 15; have T1 : Hid True := T0; clear T0; refine (SL.out w11 fb rc F (by obtain ⟨_, _, _, _, e4⟩ := HLF.out; exact e4) A11.out.1.f A11.out.2).mono ?_; rintro e w12 ⟨rfl, b12⟩; have A12 : Hid (LQ g x w V1 E1 w1.heap.size nb fb eb kb F E2 w12) := A11.out.1.later b12; clear b12; obtain ⟨y0, y1, y2, y3, y4⟩ := gb_cells A12.out.tw.box)
  | (go_at_call 17; refine (RFo.out w12 F E2 A12.out.tw.bel HLF.out HLW.out).mono ?_; rintro e w13 ⟨rd, rfl, n13, -, b13⟩; have A13 : Hid (LQ g x w V1 E1 w1.heap.size nb fb eb kb F E2 w13 /\ LsRow w13 (some ⟨rd, 0, none⟩) (listsU E2)) := ⟨A12.out.later b13, n13.row⟩; clear n13 b13 y0 y1 y2 y3 y4)
  | (go_at_call 15; have T2 : Hid True := T1; clear T1; refine (SL.out w13 eb rd E2 HLW.out.len A13.out.1.e A13.out.2).mono ?_; rintro e w14 ⟨rfl, b14⟩; have A14 : Hid (LQ g x w V1 E1 w1.heap.size nb fb eb kb F E2 w14) := A13.out.1.later b14; clear b14; obtain ⟨y0, y1, y2, y3, y4⟩ := gb_cells A14.out.tw.box)
  | (go_at_call 19; refine (rheights_S g w14 (HFG.out _ A14.out.tw.bel)).mono ?_; rintro e w15 ⟨re, rc5, rfl, n15, -, b15⟩; have A15 : Hid (LQ g x w V1 E1 w1.heap.size nb fb eb kb F E2 w15 /\ InRow w15 (some ⟨re, 0, none⟩) (htU g.ps g.ns.length g.ns.length)) := ⟨A14.out.later b15, n15⟩; clear n15 b15 y0 y1 y2 y3 y4)
  | (go_at_call 18; refine (SI.out w15 kb re rc5 A15.out.1.k A15.out.2).mono ?_; rintro e w16 ⟨rfl, b16⟩; have A16 : Hid (Below w.heap.size w w16) := A15.out.1.tw.bel.trans (b16.mono A15.out.1.tw.bel.size); clear b16))
 go_ret
 exact ⟨rfl, A16.out⟩
theorem firstLeast_walk (g : GV) (w : World) (h : GAt 140737488355328 w g) (hfi : GFine g) (hcap : ∀ p ∈ g.ps, p.right.length <= p.rc) :
  Calls Tryz.prog 3 #[g.val] w fun e w' => e = .returned (.bool true) /\ Below w.heap.size w w' := by
 by_cases h0 : (checkG g (checkF g.ts g.ns)).1 = 0
 ·exact least_ok g w h hfi hcap (checkG g (checkF g.ts g.ns)).2 (by rw [<- h0])
 ·exact least_no g w h hfi _ _ rfl h0
end Go.Proofs.YtpbpombjndlnbaaGreat
