import Derived.Test.YtockbobpmiagiaaGreatDoorPTR5ToTR8
namespace Go.Proofs.YtockbobpmiagiaaGreatDoor
set_option linter.unusedVariables false
set_option maxRecDepth 100000
set_option maxHeartbeats 16000000
open Go.RowKit Go.Shelf
theorem cellT {w w':World}{p:Addr}{v:Value}(h:w.cell? p=some v)(hb:Below w.heap.size w w'):w'.cell? p=some v:=by
 have hl:p.block < w.heap.size:=World.block_lt_of_cell? w _ h
 rw [<- h]
 unfold World.cell?
 rw [hb.block _ hl]
theorem run_like2 {o:Oper}{a:Act}{t0 t1:TypeId}{v0 v1:Value}{x0 x1:Operand}(hop:o.op=Op.call { callee:=Callee.value (Operand.func 64),args:=#[x0,x1],argTypes:=#[t0,t1] })(h0:a.eval x0=v0)(h1:a.eval x1=v1)(w:World):(execOp a.eval o).run Tryz.prog w=.ok (.enter 64 #[v0,v1]) w:=by
 have hf:a.eval (Operand.func 64)=.func (.func 64) #[] #[]:=rfl
 simp [execOp,hop,resolve,invoke,h0,h1,hf,Deferred.ofValue]
theorem like_P (xa ya:Option Addr)(xn xc yn yc:Nat)(k n:Int)(w:World):Calls Tryz.prog 64 #[.agg #[.slice xa xn xc,.slice ya yn yc],.agg #[.int .i64 k,.int .i64 n]] w fun e w'=>e=.returned (if k=1 then .slice xa xn xc else .slice ya yn yc)/\Below w.heap.size w w':=by
 have B:Hid (Below w.heap.size w ((w.alloc (.cells #[.slice xa xn xc,.slice ya yn yc] 86)).alloc (.cells #[.int .i64 k,.int .i64 n] 49))):=(bAl w _).trans ((bAl _ _).mono (bAl w _).size)
 by_cases h:k=1
 ·rw [if_pos h]
  subst h
  go_enter Tryz.func64,Tryz.ntmps64
  go_wp2
  go_ret
  exact ⟨rfl,B.out⟩
 ·rw [if_neg h]
  have t:(k == 1)=false:=by simp [h]
  go_enter Tryz.func64,Tryz.ntmps64
  go_wp2
  go_ret
  exact ⟨rfl,B.out⟩
def mkS (p q:Nat)(x y:Value)(k:Int)(i b:Nat)(v:Bool)(w':World):Prop:=w'.cell? ⟨p,0,none⟩=some x/\w'.cell? ⟨p,1,none⟩=some y/\w'.cell? ⟨q,0,none⟩=some (.int .i64 k)/\w'.cell? ⟨q,1,none⟩=some (.int .i64 (i:Int))/\w'.cell? ⟨b,i,none⟩=some (.bool v)
theorem mkS.later {p q i b:Nat}{x y:Value}{k:Int}{v:Bool}{w w':World}(h:mkS p q x y k i b v w)(hb:Below w.heap.size w w'):mkS p q x y k i b v w':=⟨cellT h.1 hb,cellT h.2.1 hb,cellT h.2.2.1 hb,cellT h.2.2.2.1 hb,cellT h.2.2.2.2 hb⟩
set_option linter.unusedSimpArgs false in
theorem has_P (xa ya:Option Addr)(xn xc yn yc:Nat)(k:Int)(i b len cap:Nat)(v:Bool)(w:World)(hsel:(if k=1 then Value.slice xa xn xc else Value.slice ya yn yc)=.slice (some ⟨b,0,none⟩) len cap)(hi:i < len)(hll:len<=1000)(hc:w.cell? ⟨b,i,none⟩=some (.bool v)) :
  Calls Tryz.prog 42 #[.agg #[.slice xa xn xc,.slice ya yn yc],.agg #[.int .i64 k,.int .i64 (i:Int)]] w fun e w'=>e=.returned (.bool v)/\Below w.heap.size w w':=by
 obtain ⟨wb,hwb⟩:∃ wb:World,wb=(w.alloc (.cells #[.slice xa xn xc,.slice ya yn yc] 86)).alloc (.cells #[.int .i64 k,.int .i64 (i:Int)] 49):=⟨_,rfl⟩
 have B:Hid (Below w.heap.size w wb):=by rw [hwb];exact (bAl w _).trans ((bAl _ _).mono (bAl w _).size)
 have S0:Hid (mkS w.heap.size (w.heap.size+1) (.slice xa xn xc) (.slice ya yn yc) k i b v wb):=by
  have h1:=heap_alloc_new w (.cells #[.slice xa xn xc,.slice ya yn yc] 86)
  have b2:=bAl (w.alloc (.cells #[.slice xa xn xc,.slice ya yn yc] 86)) (.cells #[.int .i64 k,.int .i64 (i:Int)] 49)
  have h2:=(b2.block _ (lt_of_block h1)).trans h1
  have h3:=heap_alloc_new (w.alloc (.cells #[.slice xa xn xc,.slice ya yn yc] 86)) (.cells #[.int .i64 k,.int .i64 (i:Int)] 49)
  rw [show (w.alloc (.cells #[.slice xa xn xc,.slice ya yn yc] 86)).heap.size=w.heap.size+1 by simp] at h3
  rw [<- hwb] at h2 h3
  exact ⟨(cQa h2).trans rfl,(cQa h2).trans rfl,(cQa h3).trans rfl,(cQa h3).trans rfl,cellT hc B.out⟩
 obtain ⟨wd,hwd⟩:∃ wd:World,wd=wb.drew:=⟨_,rfl⟩
 have bd:Below wb.heap.size wb wd:=by rw [hwd];exact (Below.refl _ _).drew
 have hs:Hid (mkS w.heap.size (w.heap.size+1) (.slice xa xn xc) (.slice ya yn yc) k i b v wd):=S0.out.later bd
 have BD:Hid (Below w.heap.size w wd):=B.out.trans (bd.mono B.out.size)
 have LK:Hid (Calls Tryz.prog 64 #[.agg #[.slice xa xn xc,.slice ya yn yc],.agg #[.int .i64 k,.int .i64 (i:Int)]] wd fun e w'=>e=.returned (.slice (some ⟨b,0,none⟩) len cap)/\Below wd.heap.size wd w'):=by
  have:=like_P xa ya xn xc yn yc k (i:Int) wd
  rwa [hsel] at this
 have ilt:(i:Int) < (len:Int):=by omega
 clear hsel hc S0 B bd
 go_enter Tryz.func42,Tryz.ntmps42
 go_wp2
 rw [<- hwb]
 refine wp_region_x (S:=SX 7 (mkS w.heap.size (w.heap.size+1) (.slice xa xn xc) (.slice ya yn yc) k i b v) (fun _=>True)) (by kernel_rfl) ?_
 rw [<- hwd]
 refine wtT (m:=7) (i:=0) (v:=?_) rfl (Or.inl ⟨by rfl,?_⟩) (SX.both hs.out trivial) ?_
 rotate_left
 ·(intro w hSw;obtain ⟨⟨z0,z1,z2,z3,z4⟩,_⟩:=hSw;go_simp;try (with_reducible rfl))
 (try simp only [Act.put,lsA,lsZ,lsN])
 refine wtT (m:=7) (i:=1) (v:=?_) rfl (Or.inl ⟨by rfl,?_⟩) (SX.both hs.out trivial) ?_
 rotate_left
 ·(intro w hSw;obtain ⟨⟨z0,z1,z2,z3,z4⟩,_⟩:=hSw;go_simp;try (with_reducible rfl))
 (try simp only [Act.put,lsA,lsZ,lsN])
 refine wtT (m:=7) (i:=3) (v:=?_) rfl (Or.inl ⟨by rfl,?_⟩) (SX.both hs.out trivial) ?_
 rotate_left
 ·(intro w hSw;obtain ⟨⟨z0,z1,z2,z3,z4⟩,_⟩:=hSw;go_simp;try (with_reducible rfl))
 (try simp only [Act.put,lsA,lsZ,lsN])
 refine wtT (m:=7) (i:=4) (v:=?_) rfl (Or.inl ⟨by rfl,?_⟩) (SX.both hs.out trivial) ?_
 rotate_left
 ·(intro w hSw;obtain ⟨⟨z0,z1,z2,z3,z4⟩,_⟩:=hSw;go_simp;try (with_reducible rfl))
 (try simp only [Act.put,lsA,lsZ,lsN])
 refine wX1 (j:=2) (by decide +kernel) rfl (fun K' hK=>?_)
 refine sCX rfl 64 #[.agg #[.slice xa xn xc,.slice ya yn yc],.agg #[.int .i64 k,.int .i64 (i:Int)]] _ (run_like2 (v0:=.agg #[.slice xa xn xc,.slice ya yn yc]) (v1:=.agg #[.int .i64 k,.int .i64 (i:Int)]) (by rfl) (by rfl) (by rfl) _) LK.out ?_
 rintro e w3 ⟨rfl,b3⟩
 have hs3:Hid (mkS w.heap.size (w.heap.size+1) (.slice xa xn xc) (.slice ya yn yc) k i b v w3):=hs.out.later b3
 have B3:Hid (Below w.heap.size w w3):=BD.out.trans (b3.mono BD.out.size)
 clear b3 LK hs
 refine ⟨_,rfl,hK.out _ _ (SX.both hs3.out trivial) ?_⟩
 clear hK K'
 (try simp only [Act.put,lsA,lsZ,lsN])
 refine wtT (m:=7) (i:=5) (v:=?_) rfl (Or.inl ⟨by rfl,?_⟩) (SX.both hs3.out trivial) ?_
 rotate_left
 ·(intro w hSw;obtain ⟨⟨z0,z1,z2,z3,z4⟩,_⟩:=hSw;go_simp;try (with_reducible rfl))
 (try simp only [Act.put,lsA,lsZ,lsN])
 refine wtT (m:=7) (i:=6) (v:=?_) rfl (Or.inl ⟨by rfl,?_⟩) (SX.both hs3.out trivial) ?_
 rotate_left
 ·(intro w hSw;obtain ⟨⟨z0,z1,z2,z3,z4⟩,_⟩:=hSw;go_simp;try (with_reducible rfl))
 (try simp only [Act.put,lsA,lsZ,lsN])
 refine wX1 (j:=7) (by decide +kernel) rfl (fun K' hK=>?_)
 go_simp
 refine hK.out _ _ (SX.both hs3.out trivial) ?_
 clear hK K'
 (try simp only [Act.put,lsA,lsZ,lsN])
 refine wXd (by decide +kernel) ?_
 go_wp2
 go_ret
 exact ⟨rfl,B3.out⟩
set_option linter.unusedSimpArgs false in
theorem add_P (xa ya:Option Addr)(xn xc yn yc:Nat)(k:Int)(i b len cap:Nat)(v:Bool)(w:World)(hsel:(if k=1 then Value.slice xa xn xc else Value.slice ya yn yc)=.slice (some ⟨b,0,none⟩) len cap)(hi:i < len)(hll:len<=1000)(hc:w.cell? ⟨b,i,none⟩=some (.bool v))(hf:∀ w',Below w.heap.size w w'->w'.frozen? ⟨b,i,none⟩=false) :
  Calls Tryz.prog 61 #[.agg #[.slice xa xn xc,.slice ya yn yc],.agg #[.int .i64 k,.int .i64 (i:Int)]] w fun e w'=>e=.returned (.bool (!v))/\∃ w3,Below w.heap.size w w3/\w'=w3.setCell ⟨b,i,none⟩ (.bool true):=by
 obtain ⟨wb,hwb⟩:∃ wb:World,wb=(w.alloc (.cells #[.slice xa xn xc,.slice ya yn yc] 86)).alloc (.cells #[.int .i64 k,.int .i64 (i:Int)] 49):=⟨_,rfl⟩
 have B:Hid (Below w.heap.size w wb):=by rw [hwb];exact (bAl w _).trans ((bAl _ _).mono (bAl w _).size)
 have S0:Hid (mkS w.heap.size (w.heap.size+1) (.slice xa xn xc) (.slice ya yn yc) k i b v wb):=by
  have h1:=heap_alloc_new w (.cells #[.slice xa xn xc,.slice ya yn yc] 86)
  have b2:=bAl (w.alloc (.cells #[.slice xa xn xc,.slice ya yn yc] 86)) (.cells #[.int .i64 k,.int .i64 (i:Int)] 49)
  have h2:=(b2.block _ (lt_of_block h1)).trans h1
  have h3:=heap_alloc_new (w.alloc (.cells #[.slice xa xn xc,.slice ya yn yc] 86)) (.cells #[.int .i64 k,.int .i64 (i:Int)] 49)
  rw [show (w.alloc (.cells #[.slice xa xn xc,.slice ya yn yc] 86)).heap.size=w.heap.size+1 by simp] at h3
  rw [<- hwb] at h2 h3
  exact ⟨(cQa h2).trans rfl,(cQa h2).trans rfl,(cQa h3).trans rfl,(cQa h3).trans rfl,cellT hc B.out⟩
 have HA:Hid (Calls Tryz.prog 42 #[.agg #[.slice xa xn xc,.slice ya yn yc],.agg #[.int .i64 k,.int .i64 (i:Int)]] wb fun e w'=>e=.returned (.bool v)/\Below wb.heap.size wb w'):=has_P xa ya xn xc yn yc k i b len cap v wb hsel hi hll S0.out.2.2.2.2
 have LK:Hid (∀ wd,Calls Tryz.prog 64 #[.agg #[.slice xa xn xc,.slice ya yn yc],.agg #[.int .i64 k,.int .i64 (i:Int)]] wd fun e w'=>e=.returned (.slice (some ⟨b,0,none⟩) len cap)/\Below wd.heap.size wd w'):=fun wd=>by
  have:=like_P xa ya xn xc yn yc k (i:Int) wd
  rwa [hsel] at this
 have HF:Hid (∀ w',Below w.heap.size w w'->w'.frozen? ⟨b,i,none⟩=false):=hf
 have ilt:(i:Int) < (len:Int):=by omega
 clear hsel hc hf
 go_enter Tryz.func61,Tryz.ntmps61
 go_wp2_with (go_at_call 42;rw [<- hwb];refine HA.out.mono ?_;rintro e w2 ⟨rfl,b2⟩;have B2:Hid (Below wb.heap.size wb w2):=b2;clear b2)
 obtain ⟨wd,hwd⟩:∃ wd:World,wd=w2.drew:=⟨_,rfl⟩
 have bd:Below w2.heap.size w2 wd:=by rw [hwd];exact (Below.refl _ _).drew
 have hs:Hid (mkS w.heap.size (w.heap.size+1) (.slice xa xn xc) (.slice ya yn yc) k i b v wd):=(S0.out.later B2.out).later bd
 have BD:Hid (Below w.heap.size w wd):=(B.out.trans (B2.out.mono B.out.size)).trans (bd.mono (B.out.trans (B2.out.mono B.out.size)).size)
 clear bd HA hwb
 refine wp_region_x (S:=SX 6 (fun _=>True) (mkS w.heap.size (w.heap.size+1) (.slice xa xn xc) (.slice ya yn yc) k i b v)) (by kernel_rfl) ?_
 rw [<- hwd]
 refine wtT (m:=6) (i:=0) (v:=?_) rfl (Or.inl ⟨by rfl,?_⟩) (SX.both trivial hs.out) ?_
 rotate_left
 ·(intro w hSw;obtain ⟨_,z0,z1,z2,z3,z4⟩:=hSw;go_simp;try (with_reducible rfl))
 (try simp only [Act.put,lsA,lsZ,lsN])
 refine wtT (m:=6) (i:=1) (v:=?_) rfl (Or.inl ⟨by rfl,?_⟩) (SX.both trivial hs.out) ?_
 rotate_left
 ·(intro w hSw;obtain ⟨_,z0,z1,z2,z3,z4⟩:=hSw;go_simp;try (with_reducible rfl))
 (try simp only [Act.put,lsA,lsZ,lsN])
 refine wtT (m:=6) (i:=3) (v:=?_) rfl (Or.inl ⟨by rfl,?_⟩) (SX.both trivial hs.out) ?_
 rotate_left
 ·(intro w hSw;obtain ⟨_,z0,z1,z2,z3,z4⟩:=hSw;go_simp;try (with_reducible rfl))
 (try simp only [Act.put,lsA,lsZ,lsN])
 refine wtT (m:=6) (i:=4) (v:=?_) rfl (Or.inl ⟨by rfl,?_⟩) (SX.both trivial hs.out) ?_
 rotate_left
 ·(intro w hSw;obtain ⟨_,z0,z1,z2,z3,z4⟩:=hSw;go_simp;try (with_reducible rfl))
 (try simp only [Act.put,lsA,lsZ,lsN])
 refine wX1 (j:=2) (by decide +kernel) rfl (fun K' hK=>?_)
 refine sCX rfl 64 #[.agg #[.slice xa xn xc,.slice ya yn yc],.agg #[.int .i64 k,.int .i64 (i:Int)]] _ (run_like2 (v0:=.agg #[.slice xa xn xc,.slice ya yn yc]) (v1:=.agg #[.int .i64 k,.int .i64 (i:Int)]) (by rfl) (by rfl) (by rfl) _) (LK.out _) ?_
 rintro e w3 ⟨rfl,b3⟩
 have hs3:Hid (mkS w.heap.size (w.heap.size+1) (.slice xa xn xc) (.slice ya yn yc) k i b v w3):=hs.out.later b3
 have B3:Hid (Below w.heap.size w w3):=BD.out.trans (b3.mono BD.out.size)
 clear b3 LK hs
 refine ⟨_,rfl,hK.out _ _ (SX.both trivial hs3.out) ?_⟩
 clear hK K'
 (try simp only [Act.put,lsA,lsZ,lsN])
 refine wtT (m:=6) (i:=5) (v:=?_) rfl (Or.inl ⟨by rfl,?_⟩) (SX.both trivial hs3.out) ?_
 rotate_left
 ·(intro w hSw;obtain ⟨_,z0,z1,z2,z3,z4⟩:=hSw;go_simp;try (with_reducible rfl))
 (try simp only [Act.put,lsA,lsZ,lsN])
 have cc:=hs3.out.2.2.2.2
 have ff:=HF.out w3 B3.out
 refine wX1 (j:=6) (by decide +kernel) rfl (fun K' hK=>?_)
 go_simp
 refine hK.out _ _ (SX.one trivial (by kernel_rfl)) ?_
 clear hK K'
 (try simp only [Act.put,lsA,lsZ,lsN])
 refine wXd (by decide +kernel) ?_
 go_wp2
 go_ret
 exact ⟨rfl,w3,B3.out,rfl⟩
theorem term_P (n:Int)(w:World):Calls Tryz.prog 63 #[.int .i64 n] w fun e w'=>e=.returned (.agg #[.int .i64 1,.int .i64 n])/\Below w.heap.size w w':=by
 go_enter Tryz.func63,Tryz.ntmps63
 go_wp2
 refine bodyPost_ret (v:=.agg #[.int .i64 1,.int .i64 n]) (by simp [results,Tryz.results63,go_sem]) rfl ?_
 exact ⟨rfl,bAl _ _⟩
theorem non_P (n:Int)(w:World):Calls Tryz.prog 26 #[.int .i64 n] w fun e w'=>e=.returned (.agg #[.int .i64 2,.int .i64 n])/\Below w.heap.size w w':=by
 go_enter Tryz.func26,Tryz.ntmps26
 go_wp2
 refine bodyPost_ret (v:=.agg #[.int .i64 2,.int .i64 n]) (by simp [results,Tryz.results26,go_sem]) rfl ?_
 exact ⟨rfl,bAl _ _⟩
def syD (d:Int)(k:Nat):List (Int×Int):=(List.range k).map fun (i:Nat)=>(d,(i:Int))
theorem syD_succ (d:Int)(k:Nat):syD d (k+1)=syD d k++[(d,(k:Int))]:=by
 unfold syD
 rw [List.range_succ,List.map_append]
 rfl
theorem sy_lenP {w:World}{v:Value}{l:List (Int×Int)}(h:SY w v l):∃ a c,v=.slice a l.length c:=by
 obtain ⟨a,c,e⟩:=sy_len h
 exact ⟨a,c,e⟩
theorem symbolsOf_P (g:GV)(w:World)(hfg:FG w g) :
  Calls Tryz.prog 41 #[g.val] w fun e w'=>∃ v,e=.returned v/\SY w' v (syD 1 g.ts.length++syD 2 g.ns.length)/\(∀ j,v.ownBlock=some j->w.heap.size<=j)/\Below w.heap.size w w':=by
 have X0:Hid ((w.alloc (gBox g)).heap[w.heap.size]?=some (gBox g)):=heap_alloc_new _ _
 obtain ⟨x0,x1,x2,x3,x4⟩:=gbc X0.out
 have htl:=hfg.tl.2
 have hnl:=hfg.nl.2
 have B0:Hid (Below w.heap.size w (w.alloc (gBox g))):=bAl _ _
 clear hfg
 obtain ⟨wa,hwa⟩:∃ wa:World,wa=w.alloc (gBox g):=⟨_,rfl⟩
 have HWA:Hid (Below w.heap.size w wa/\wa.heap[w.heap.size]?=some (gBox g)):=by rw [hwa];exact ⟨B0.out,X0.out⟩
 clear X0 B0
 go_enter Tryz.func41,Tryz.ntmps41
 go_wp2
 simp only [gBox] at hwa
 rw [<- hwa]
 clear x0 x1 x2 x3 x4 hwa
 go_loopw [3,9] (fun v i wr=>∃ k:Nat,k<=g.ts.length/\i=.int .i64 k/\SY wr v (syD 1 k)/\(∀ j,v.ownBlock=some j->wa.heap.size<=j)/\Below wa.heap.size wa wr) (fun _ i _=>g.ts.length - (intOf i).toNat)
 case atStart=>exact ⟨0,Nat.zero_le _,rfl,SY.nil _,(fun j hj=>by simp [Value.ownBlock] at hj),Below.refl _ _⟩
 case round =>
  obtain ⟨k,hk,rfl,hI,hv,hB⟩:=hrel
  obtain ⟨va,vc,rfl⟩:=sy_lenP hI
  have HB:Hid (Below wa.heap.size wa wr):=hB
  by_cases hlt:k < g.ts.length
  ·have klt:(k:Int) < (g.ts.length:Int):=by omega
   have hst:Hid (syD 1 (k+1)=(syD 1 k)++[(1,(k:Int))]):=by show _=_;rw [syD_succ]
   have hrl:(syD 1 k).length<=1000:=by simp [syD];omega
   generalize syD 1 k=R at *
   have HI:Hid (SY wr (.slice va R.length vc) R):=hI
   have HV:Hid (∀ j,(Value.slice va R.length vc).ownBlock=some j->wa.heap.size<=j):=hv
   have HLT:Hid (R.length<=2000000):=by show _<=_;omega
   clear hI hv hB hrl
   go_wp2_with (first
    | (go_at_call 63;refine (term_P _ _).mono ?_;rintro e wt ⟨rfl,bt⟩;have BT:Hid (Below wr.heap.size wr wt):=bt;clear bt)
    | (at_builtin;refine wpList_sy_append rfl _ _ rfl (.slice va R.length vc) R rfl ((HI.out.later BT.out).later (bAl _ _)) wt.heap.size 1 1 k rfl (by simp) (by simp) HLT.out ?_;intro a4 n4 c4 w4 ho4 hg4))
   obtain ⟨q1,q2⟩:=gBi ((HB.out.trans (BT.out.mono HB.out.size)).alloc (HB.out.trans (BT.out.mono HB.out.size)).size _) HV.out hg4
   have R4:Hid (SY w4 (.slice a4 n4 c4) (syD 1 (k+1))/\(∀ j,(Value.slice a4 n4 c4).ownBlock=some j->wa.heap.size<=j)/\Below wa.heap.size wa w4):=⟨by rw [hst.out];exact ho4,q2,q1⟩
   clear q1 q2 ho4 hg4 hst
   go_roundw
   case rel=>exact ⟨k+1,by omega,by go_num,R4.out⟩
   case measure=>simp [intOf];omega
  ·obtain rfl:k=g.ts.length:=by omega
   obtain ⟨x0,x1,x2,x3,x4⟩:=gbc ((hB.block _ (lt_of_block HWA.out.2)).trans HWA.out.2)
   have R0:Hid (SY wr (.slice va (syD 1 g.ts.length).length vc) (syD 1 g.ts.length++syD 2 0)/\(∀ j,(Value.slice va (syD 1 g.ts.length).length vc).ownBlock=some j->wa.heap.size<=j)/\Below wa.heap.size wa wr):=by
    have e:syD 2 0=[]:=rfl
    rw [e,List.append_nil]
    exact ⟨hI,hv,hB⟩
   clear hI hv hB HB
   obtain ⟨wy,rfl⟩:∃ wy:World,wy=wr:=⟨_,rfl⟩
   have hyl:(syD 1 g.ts.length).length<=64:=by simp [syD];omega
   generalize hY:syD 1 g.ts.length=Y at *
   go_wp2
   clear x0 x1 x2 x3 x4
   go_loopw [3,21] (fun v i wr=>∃ k:Nat,k<=g.ns.length/\i=.int .i64 k/\SY wr v (Y++syD 2 k)/\(∀ j,v.ownBlock=some j->wa.heap.size<=j)/\Below wa.heap.size wa wr) (fun _ i _=>g.ns.length - (intOf i).toNat)
   case atStart=>exact ⟨0,Nat.zero_le _,rfl,R0.out⟩
   case round =>
    obtain ⟨k,hk,rfl,hI,hv,hB⟩:=hrel
    obtain ⟨va,vc,rfl⟩:=sy_lenP hI
    have HB:Hid (Below wa.heap.size wa wr):=hB
    by_cases hlt:k < g.ns.length
    ·have klt:(k:Int) < (g.ns.length:Int):=by omega
     have hst:Hid (Y++syD 2 (k+1)=(Y++syD 2 k)++[(2,(k:Int))]):=by show _=_;rw [syD_succ];rw [List.append_assoc]
     have hrl:(Y++syD 2 k).length<=1000:=by simp [syD];omega
     generalize Y++syD 2 k=R at *
     have HI:Hid (SY wr (.slice va R.length vc) R):=hI
     have HV:Hid (∀ j,(Value.slice va R.length vc).ownBlock=some j->wa.heap.size<=j):=hv
     have HLT:Hid (R.length<=2000000):=by show _<=_;omega
     clear hI hv hB hrl
     go_wp2_with (first
      | (go_at_call 26;refine (non_P _ _).mono ?_;rintro e wt ⟨rfl,bt⟩;have BT:Hid (Below wr.heap.size wr wt):=bt;clear bt)
      | (at_builtin;refine wpList_sy_append rfl _ _ rfl (.slice va R.length vc) R rfl ((HI.out.later BT.out).later (bAl _ _)) wt.heap.size 1 2 k rfl (by simp) (by simp) HLT.out ?_;intro a4 n4 c4 w4 ho4 hg4))
     obtain ⟨q1,q2⟩:=gBi ((HB.out.trans (BT.out.mono HB.out.size)).alloc (HB.out.trans (BT.out.mono HB.out.size)).size _) HV.out hg4
     have R4:Hid (SY w4 (.slice a4 n4 c4) (Y++syD 2 (k+1))/\(∀ j,(Value.slice a4 n4 c4).ownBlock=some j->wa.heap.size<=j)/\Below wa.heap.size wa w4):=⟨by rw [hst.out];exact ho4,q2,q1⟩
     clear q1 q2 ho4 hg4 hst
     go_roundw
     case rel=>exact ⟨k+1,by omega,by go_num,R4.out⟩
     case measure=>simp [intOf];omega
    ·obtain rfl:k=g.ns.length:=by omega
     have R:Hid (SY wr (.slice va (Y++syD 2 g.ns.length).length vc) (Y++syD 2 g.ns.length)/\(∀ j,(Value.slice va (Y++syD 2 g.ns.length).length vc).ownBlock=some j->w.heap.size<=j)/\Below w.heap.size w wr):=⟨hI,fun j hj=>Nat.le_trans HWA.out.1.size (hv j hj),HWA.out.1.trans (hB.mono HWA.out.1.size)⟩
     clear hI hv hB
     go_wp2
     go_ret
     have R2:=R.out
     rw [<- hY] at R2
     exact ⟨_,rfl,by rw [<- hY];exact R2⟩
theorem mk4 (w wz:World)(A B:Obj)(n1 n2:Nat)(h:((((w.alloc A).alloc B).alloc (.cells (madeCells #[.bool false] n1) 4)).alloc (.cells (madeCells #[.bool false] n2) 4)).drew=wz):wz.heap[w.heap.size+1]?=some B/\BB wz (w.heap.size+1+1) (List.replicate n1 false)/\BB wz (w.heap.size+1+1+1) (List.replicate n2 false)/\Below w.heap.size w wz:=by
 obtain ⟨a,ha⟩:∃ a,a=w.alloc A:=⟨_,rfl⟩
 obtain ⟨b,hb⟩:∃ b,b=a.alloc B:=⟨_,rfl⟩
 obtain ⟨c,hc⟩:∃ c,c=b.alloc (.cells (madeCells #[.bool false] n1) 4):=⟨_,rfl⟩
 obtain ⟨d,hd⟩:∃ d,d=c.alloc (.cells (madeCells #[.bool false] n2) 4):=⟨_,rfl⟩
 rw [<- ha,<- hb,<- hc,<- hd] at h
 have za:a.heap.size=w.heap.size+1:=by rw [ha];simp
 have zb:b.heap.size=w.heap.size+1+1:=by rw [hb];simp [za]
 have zc:c.heap.size=w.heap.size+1+1+1:=by rw [hc];simp [zb]
 have ba:Below w.heap.size w a:=by rw [ha];exact bAl _ _
 have bb:Below a.heap.size a b:=by rw [hb];exact bAl _ _
 have bc:Below b.heap.size b c:=by rw [hc];exact bAl _ _
 have bd:Below c.heap.size c d:=by rw [hd];exact bAl _ _
 have bz:Below d.heap.size d wz:=by rw [<- h];exact (Below.refl _ _).drew
 have hB:b.heap[w.heap.size+1]?=some B:=by
  have:=heap_alloc_new a B
  rw [za,<- hb] at this
  exact this
 have h1:BB c (w.heap.size+1+1) (List.replicate n1 false):=by
  have:=BB.made b n1
  rw [zb,<- hc] at this
  exact this
 have h2:BB d (w.heap.size+1+1+1) (List.replicate n2 false):=by
  have:=BB.made c n2
  rw [zc,<- hd] at this
  exact this
 have bcz:Below c.heap.size c wz:=bd.trans (bz.mono bd.size)
 have bbz:Below b.heap.size b wz:=bc.trans (bcz.mono bc.size)
 have baz:Below a.heap.size a wz:=bb.trans (bbz.mono bb.size)
 exact ⟨(bbz.block _ (lt_of_block hB)).trans hB,h1.later bcz,h2.later bz,ba.trans (baz.mono ba.size)⟩
theorem noMarks_P (g:GV)(w:World)(hfg:FG w g) :
  Calls Tryz.prog 60 #[g.val] w fun e w'=>∃ tb nb,e=.returned (.agg #[.slice (some ⟨tb,0,none⟩) g.ts.length g.ts.length,.slice (some ⟨nb,0,none⟩) g.ns.length g.ns.length])/\BB w' tb (List.replicate g.ts.length false)/\BB w' nb (List.replicate g.ns.length false)/\tb≠nb/\w.heap.size<=tb/\w.heap.size<=nb/\Below w.heap.size w w':=by
 have X0:Hid ((w.alloc (gBox g)).heap[w.heap.size]?=some (gBox g)):=heap_alloc_new _ _
 have hmt:=make_boolF g.ts.length (by have:=hfg.tl;omega)
 have hmk:=make_boolF g.ns.length (by have:=hfg.nl;omega)
 obtain ⟨x0,x1,x2,x3,x4⟩:=gbc X0.out
 clear hfg
 go_enter Tryz.func60,Tryz.ntmps60
 go_wp2
 go_region
 ·generalize hwz:World.drew (World.alloc _ _)=wz
  obtain ⟨q1,q2,q3,q4⟩:=mk4 w wz _ _ _ _ hwz
  have c0:=(cQa q1 (i:=0)).trans rfl
  have c1:=(cQa q1 (i:=1)).trans rfl
  have R:Hid (BB wz (w.heap.size+1+1) (List.replicate g.ts.length false)/\BB wz (w.heap.size+1+1+1) (List.replicate g.ns.length false)/\Below w.heap.size w wz):=⟨q2,q3,q4⟩
  clear hwz q1 q2 q3 q4 x0 x1 x2 x3 x4
  go_wp2
  refine bodyPost_ret (v:=.agg #[.slice (some ⟨w.heap.size+1+1,0,none⟩) g.ts.length g.ts.length,.slice (some ⟨w.heap.size+1+1+1,0,none⟩) g.ns.length g.ns.length]) (by simp [results,Tryz.results60,go_sem,c0,c1]) rfl ?_
  exact ⟨_,_,rfl,R.out.1,R.out.2.1,by omega,by omega,by omega,R.out.2.2⟩
 ·generalize hwz:World.drew (World.alloc _ _)=wz
  obtain ⟨q1,q2,q3,q4⟩:=mk4 w wz _ _ _ _ hwz
  have c0:=(cQa q1 (i:=0)).trans rfl
  have c1:=(cQa q1 (i:=1)).trans rfl
  have R:Hid (BB wz (w.heap.size+1+1) (List.replicate g.ns.length false)/\BB wz (w.heap.size+1+1+1) (List.replicate g.ts.length false)/\Below w.heap.size w wz):=⟨q2,q3,q4⟩
  clear hwz q1 q2 q3 q4 x0 x1 x2 x3 x4
  go_wp2
  refine bodyPost_ret (v:=.agg #[.slice (some ⟨w.heap.size+1+1+1,0,none⟩) g.ts.length g.ts.length,.slice (some ⟨w.heap.size+1+1,0,none⟩) g.ns.length g.ns.length]) (by simp [results,Tryz.results60,go_sem,c0,c1]) rfl ?_
  exact ⟨_,_,rfl,R.out.2.1,R.out.1,by omega,by omega,by omega,R.out.2.2⟩
end Go.Proofs.YtockbobpmiagiaaGreatDoor
