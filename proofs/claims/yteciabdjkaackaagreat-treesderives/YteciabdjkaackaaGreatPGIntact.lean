import Derived.Test.YteciabdjkaackaaGreatPGG0ToGG2
namespace Go.Proofs.YteciabdjkaackaaGreat
set_option linter.unusedVariables false
open Go.RowKit
set_option maxHeartbeats 1000000 in
theorem samestrs_h (ao bo:Option Addr)(n m ca cb:Nat)(ss:List ByteArray)(w:World)(hn:n=ss.length)(hm:m=ss.length)(hl:ss.length<=140737488355328)(hr:StrRow w ao ss)(hs:StrRow w bo ss) :
  Calls Tryz.prog 53 #[.slice ao n ca,.slice bo m cb] w fun e w'=>e=.returned (.bool true)/\∃ d,w'=w.drewN d:=by
 subst hn hm
 have hb:((ss.length:Int) != ss.length)=false:=by simp
 go_enter Tryz.func53,Tryz.ntmps53
 go_wp2
 go_loopw [5] (fun i wr=>∃ k d:Nat,k<=ss.length/\i=.int .i64 k/\wr=w.drewN d) (fun i _=>ss.length - (intOf i).toNat)
 case atStart=>exact ⟨0,0,Nat.zero_le _,rfl,rfl⟩
 case round =>
  obtain ⟨k,d,hk,rfl,rfl⟩:=hrel
  by_cases hlt:k < ss.length
  ·obtain ⟨b,off,rfl,_,hc⟩:=hr (by intro h;subst h;simp at hlt)
   obtain ⟨b2,off2,rfl,_,hc2⟩:=hs (by intro h;subst h;simp at hlt)
   have h1:=hc k hlt
   have h2:=hc2 k hlt
   clear hc hc2 hr hs
   generalize ss.getD k ByteArray.empty=x at *
   have het:(x.toList != x.toList)=false:=by simp
   go_wp2
   go_quiet (fail)
   go_wp2
   go_roundw
   case rel=>exact ⟨k+1,_,by omega,by go_num,rfl⟩
   case measure=>simp [intOf];omega
  ·go_wp2
   go_ret
   exact ⟨rfl,_,rfl⟩
set_option maxHeartbeats 2000000 in
theorem samesyms_h (ao bo:Option Addr)(n m ca cb:Nat)(l:List (Int×Int))(w:World)(hn:n=l.length)(hm:m=l.length)(hl:l.length<=140737488355328)(hr:SymRow w ao l)(hs:SymRow w bo l) :
  Calls Tryz.prog 55 #[.slice ao n ca,.slice bo m cb] w fun e w'=>e=.returned (.bool true)/\∃ d,w'=w.drewN d:=by
 subst hn hm
 have hb:((l.length:Int) != l.length)=false:=by simp
 go_enter Tryz.func55,Tryz.ntmps55
 go_wp2
 go_loopw [5] (fun i wr=>∃ k d:Nat,k<=l.length/\i=.int .i64 k/\wr=w.drewN d) (fun i _=>l.length - (intOf i).toNat)
 case atStart=>exact ⟨0,0,Nat.zero_le _,rfl,rfl⟩
 case round =>
  obtain ⟨k,d,hk,rfl,rfl⟩:=hrel
  by_cases hlt:k < l.length
  ·obtain ⟨b,off,rfl,_,hc⟩:=hr (by intro h;subst h;simp at hlt)
   obtain ⟨b2,off2,rfl,_,hc2⟩:=hs (by intro h;subst h;simp at hlt)
   obtain ⟨h1,h2⟩:=hc k hlt
   obtain ⟨h3,h4⟩:=hc2 k hlt
   clear hc hc2 hr hs
   generalize l.getD k (0,0)=q at *
   obtain ⟨q1,q2⟩:=q
   simp only at h1 h2 h3 h4
   have e1:(q1 == q1)=true:=by simp
   have e2:(q2 == q2)=true:=by simp
   go_wp2
   go_quiet (fail)
   go_wp2
   go_roundw
   case rel=>exact ⟨k+1,_,by omega,by go_num,rfl⟩
   case measure=>simp [intOf];omega
  ·go_wp2
   go_ret
   exact ⟨rfl,_,rfl⟩
theorem sametrees_h (a b:Option Addr)(c d:Nat)(w:World):Calls Tryz.prog 60 #[.slice a 0 c,.slice b 0 d] w fun e w'=>e=.returned (.bool true)/\w'=w:=by
 go_enter Tryz.func60,Tryz.ntmps60
 go_wp2
 go_loop [5] (fun i=>i=.int .i64 0) (fun _=>0)
 case atStart=>rfl
 case round =>
  subst hrel
  go_wp2
  go_ret
  exact ⟨rfl,rfl⟩
theorem HE.strRows {w:World}{e:HE}(h:e.At w)(ht:e.t=9/\e.sz=1/\∃ zs:List ByteArray,e.cs=zs.map Value.string):∃ zs:List ByteArray,e.N=zs.length/\∀ n,StrRow (w.drewN n) (some ⟨e.g,0,none⟩) zs/\StrRow (w.drewN n) e.a zs:=by
 obtain ⟨t1,t2,zs,hz⟩:=ht
 obtain ⟨t,sz,g,N,a,c,cs⟩:=e
 simp only at t1 t2 hz
 subst t1 t2 hz
 have hN:N=zs.length:=by have:=h.len;simpa using this.symm
 refine ⟨zs,hN,fun n=>?_⟩
 have hk:=h.later (bDn (Below.refl _ _) n)
 have hgs:GS (w.drewN n) (.slice a N c) zs:=by have:=hk.own;unfold GS;rw [<- hN];exact this
 obtain ⟨a',c',e,hr,_⟩:=hgs.row
 simp only [Value.slice.injEq] at e
 obtain ⟨rfl,_,_⟩:=e
 refine ⟨fun _=>⟨g,0,rfl,lt_of_block hk.hg,fun i hi=>?_⟩,hr⟩
 have hg':(w.drewN n).heap[g]?=some (.cells (zs.map Value.string).toArray 9 (0,0)):=hk.hg
 rw [Nat.zero_add,cQa hg']
 simp [List.getD,hi]
theorem HE.symRows {w:World}{e:HE}(h:e.At w)(ht:e.t=82/\e.sz=2/\∃ zs:List (Int×Int),e.cs=sCl zs):∃ zs:List (Int×Int),e.N=zs.length/\∀ n,SymRow (w.drewN n) (some ⟨e.g,0,none⟩) zs/\SymRow (w.drewN n) e.a zs:=by
 obtain ⟨t1,t2,zs,hz⟩:=ht
 obtain ⟨t,sz,g,N,a,c,cs⟩:=e
 simp only at t1 t2 hz
 subst t1 t2 hz
 have hN:N=zs.length:=by have:=h.len;simp only [symCells_len] at this;omega
 refine ⟨zs,hN,fun n=>?_⟩
 have hk:=h.later (bDn (Below.refl _ _) n)
 have hsy:SY (w.drewN n) (.slice a N c) zs:=by have:=hk.own;unfold SY;rw [<- hN];exact this
 exact ⟨FullS.row ⟨hk.hg⟩,hsy.row⟩
theorem HE.intRows {w:World}{e:HE}(h:e.At w)(ht:e.t=3/\e.sz=1/\∃ zs:List Int,e.cs=zs.map (Value.int .i64 ·)):∃ zs:List Int,e.N=zs.length/\∀ n,InRow (w.drewN n) (some ⟨e.g,0,none⟩) zs/\InRow (w.drewN n) e.a zs:=by
 obtain ⟨t1,t2,zs,hz⟩:=ht
 obtain ⟨t,sz,g,N,a,c,cs⟩:=e
 simp only at t1 t2 hz
 subst t1 t2 hz
 have hN:N=zs.length:=by have:=h.len;simpa using this.symm
 refine ⟨zs,hN,fun n=>?_⟩
 have hk:=h.later (bDn (Below.refl _ _) n)
 have hil:IL (w.drewN n) (.slice a N c) zs:=by have:=hk.own;unfold IL;rw [<- hN];exact this
 refine ⟨FullI.row ⟨hk.hg⟩,?_⟩
 intro hne
 rcases hil.2 with ⟨e,h0⟩ | ⟨g2,cap,cur,e,h1,h2,h3⟩
 ·exact absurd (List.eq_nil_of_length_eq_zero h0) hne
 ·have hc:=fun j x hx=>World.ownsRow.cells hil (g:=g2) (by rw [e];rfl) j x hx
  cases e
  refine ⟨g2,0,rfl,lt_of_block h2,fun i hi=>?_⟩
  have r1:=hc i (.int .i64 (zs.getD i 0)) (by simp [List.getD,hi])
  rw [aNn] at r1
  exact r1
end Go.Proofs.YteciabdjkaackaaGreat
