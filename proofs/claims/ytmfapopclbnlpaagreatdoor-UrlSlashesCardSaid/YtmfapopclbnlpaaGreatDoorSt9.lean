import Derived.Test.YtmfapopclbnlpaaGreatDoorRows
import Derived.WalkKit
import Derived.WalkSpells
import Derived.WalkLawsBesides
import Derived.Lib.Hide
import Derived.Deep.QuietTactic
import Derived.BigQuiet
import Derived.WalkSmall
import Derived.Test.YtmfapopclbnlpaaGreatDoorSt8
set_option linter.unusedVariables false
set_option linter.unusedSimpArgs false
namespace Go.Proofs.YtmfapopclbnlpaaGreatDoor
open Go.RowKit
def fb(b:UInt8):Value:=.int .u8 (b.toNat:Int)
theorem ia {n:Int}(h0:0≤n)(h1:n≤255):fb (ko n)=.int .u8 n:=by unfold fb;rw [fa h0 h1]
def Cells(w:World)(b off n:Nat)(f:Nat→Value):Prop:=∀i,i<n→w.cell? ⟨b,off+i,none⟩=some (f i)
theorem Cells.at {w:World}{b off n:Nat}{f:Nat→Value}(h:Cells w b off n f)(i:Nat)(hi:i<n):w.cell? ⟨b,off+i,none⟩=some (f i):=h i hi
theorem Cells.lt {w:World}{b off n:Nat}{f:Nat→Value}(h:Cells w b off n f)(hn:0<n):b<w.heap.size:=
 World.block_lt_of_cell? w _ (h 0 hn)
def je(w:World)(v:Value)(n:Nat)(f:Nat→Value):Prop:=
 ∃a cap,v=.slice a n cap∧n≤cap∧cap≤maxLen∧(a=none→cap=0)∧(0<n→∃b off,a=some ⟨b,off,none⟩∧Cells w b off n f)
def nD(l:List UInt8)(i:Nat):Value:=.int .u8 (aD l i)
def oF(w:World)(v:Value)(l:List UInt8):Prop:=je w v l.length (nD l)
def w9(l:List Int)(i:Nat):Value:=.int .i32 (l.getD i 0)
def xa(w:World)(v:Value)(l:List Int):Prop:=je w v l.length (w9 l)
theorem Cells.below {w w':World}{B b off n:Nat}{f:Nat→Value}(h:Cells w b off n f)(hw:Below B w w')(hb:b<B):Cells w' b off n f:=by
 intro i hi
 rw [hw.cell (p:=⟨b,off+i,none⟩) hb];exact h i hi
theorem Cells.le {w:World}{b off n m:Nat}{f:Nat→Value}(h:Cells w b off n f)(hm:m≤n):Cells w b off m f:=fun i hi=>h i (by omega)
theorem Cells.drop {w:World}{b off n:Nat}{f:Nat→Value}(h:Cells w b off n f)(k m:Nat)(hm:k+m≤n):Cells w b (off+k) m (fun i=>f (k+i)):=by
 intro i hi
 have:=h (k+i) (by omega)
 rwa [←Nat.add_assoc]at this
theorem je.below {w w':World}{v:Value}{n:Nat}{f:Nat→Value}(h:je w v n f)(hw:Below w.heap.size w w'):je w' v n f:=by
 obtain ⟨a,cap,hv,h1,h2,h4,h3⟩:=h
 refine ⟨a,cap,hv,h1,h2,h4,fun hn=>?_⟩
 obtain ⟨b,off,ha,hc⟩:=h3 hn
 exact ⟨b,off,ha,hc.below hw (hc.lt hn)⟩
theorem je.drew {w:World}{v:Value}{n k:Nat}{f:Nat→Value}(h:je w v n f):je (w.drewN k) v n f:=h
theorem oF.drew {w:World}{v:Value}{l:List UInt8}(h:oF w v l)(k:Nat):oF (w.drewN k) v l:=h
theorem xa.drew {w:World}{v:Value}{l:List Int}(h:xa w v l)(k:Nat):xa (w.drewN k) v l:=h
theorem oF.below {w w':World}{v:Value}{l:List UInt8}(h:oF w v l)(hw:Below w.heap.size w w'):oF w' v l:=je.below h hw
theorem xa.below {w w':World}{v:Value}{l:List Int}(h:xa w v l)(hw:Below w.heap.size w w'):xa w' v l:=je.below h hw
theorem bI {a b c:World}(h:Below a.heap.size a b)(k:Below b.heap.size b c):Below a.heap.size a c:=h.trans (k.mono h.size)
theorem fQ {B:Nat}{a w:World}(h:RowKit.Below B a w)(n:Nat):RowKit.Below B a (w.drewN n):=h.trans ⟨rfl,rfl,rfl,Nat.le_refl _,fun _ _=>rfl⟩
theorem cn(w:World)(n:Nat):Below w.heap.size w (w.drewN n):=fQ (Below.refl _ _) n
theorem addr_add(g j:Nat):Addr.add ⟨g,0,none⟩ j=⟨g,j,none⟩:=by unfold Addr.add;split<;>simp_all
theorem mi(g o j:Nat):Addr.add ⟨g,o,none⟩ j=⟨g,o+j,none⟩:=by unfold Addr.add;split<;>simp_all
theorem CY(x:Addr)(w:World){v:Value}(h:w.cell? (x.add 0)=some v):x=⟨x.block,x.off,none⟩:=by
 obtain ⟨b,off,spot⟩:=x
 have hs:=World.cell?_spot h
 rw [show Addr.add ⟨b,off,spot⟩ 0=⟨b,off,spot⟩ by simp [Addr.add]]at hs
 have hs:spot=none:=by simpa using hs
 subst hs
 rfl
theorem uS(x:Addr)(j:Nat)(w:World){v:Value}(hx:x=⟨x.block,x.off,none⟩)(h:w.cell? (x.add j)=some v):w.cell? ⟨x.block,x.off+j,none⟩=some v:=by
 rw [hx]at h
 rwa [mi]at h
def Lt(w w':World):Prop:=Below w.heap.size w w'
theorem CZ(w:World):Lt w w:=Below.refl _ _
theorem Fs(w:World)(p:Prop):(∀w',Lt w w'→p)=p:=propext ⟨fun h=>h w (CZ w),fun h _ _=>h⟩
attribute [simp,go_sem] Fs
theorem oF.Ft {w:World}{b off cap:Nat}{l:List UInt8}(h:Cells w b off l.length (nD l))(k:Nat)(hk:k<l.length)(hc:l.length≤cap)(hm:cap≤maxLen):
 oF w (.slice (some ⟨b,off+k,none⟩) (l.length-k) (cap-k)) (l.drop k):=by
 refine ⟨_,_,by rw [List.length_drop],by simp;omega,by omega,(fun h=>by cases h),fun _=>⟨b,off+k,rfl,?_⟩⟩
 have:=h.drop k (l.drop k).length (by simp;omega)
 intro i hi
 rw [this i hi]
 simp [nD,Fb]
theorem LX {a b c a' b' c':Int}(h:(a,b,c)=(a',b',c')):Ending.returned (.tuple #[.int .i64 a,.int .u8 b,.int .u8 c])=Ending.returned (.tuple #[.int .i64 a',.int .u8 b',.int .u8 c']):=by
 cases h;rfl
set_option maxHeartbeats 400000 in
theorem tf(c:Int)(w:World)(h0:0≤c)(h1:c≤255):
 Calls Tryz.prog 143 #[.int .u8 c] w fun e w'=>e=.returned (.tuple #[.int .i64 (eo c).1,.int .u8 (eo c).2.1,.int .u8 (eo c).2.2])∧w=w':=by
 go_enter Tryz.func143,Tryz.ntmps143
 go_wp2
 all_goals
  go_ret3
  simp only [beq_iff_eq,beq_eq_false_iff_ne]at *
  refine ⟨LX ?_,by trivial⟩
  unfold eo
  (repeat' split)<;>first|rfl|(exfalso;omega)
def uT(l:List UInt8)(e:Ending):Prop:=e=.returned (.tuple #[.int .i32 (bb l).1,.int .i64 ((bb l).2.1:Nat),.bool (bb l).2.2])
theorem lj {l:List UInt8}{r:Int}{n:Int}{m:Nat}{b:Bool}(h:bb l=(r,m,b))(hn:n=m):uT l (.returned (.tuple #[.int .i32 r,.int .i64 n,.bool b])):=by unfold uT;rw [h,hn]
set_option maxHeartbeats 2000000 in
theorem xb(v:Value)(l:List UInt8)(w:World)(hv:oF w v l)(hm:l.length≤1000000):
 Calls Tryz.prog 100 #[v] w fun e w'=>e=.returned (.tuple #[.int .i32 (bb l).1,.int .i64 ((bb l).2.1:Nat),.bool (bb l).2.2])∧∃n,w'=w.drewN n:=by
 suffices hsuf:Calls Tryz.prog 100 #[v] w fun e w'=>uT l e∧∃n,w'=w.drewN n from hsuf
 obtain ⟨a,cap,rfl,hc1,hc2,-,hs⟩:=hv
 by_cases hn:l.length=0
 ·have hN:bb l=(0,0,false):=by unfold bb;rw [if_pos hn]
  rw [hn]
  have hE:=fun n (h:n=_)=>lj (n:=n) hN h
  clear hs hN
  have HE:=Lib.hid hE
  clear hE
  go_enter Tryz.func100,Tryz.ntmps100
  go_wp2
  go_ret3
  exact ⟨HE.out _ rfl,0,rfl⟩
 obtain ⟨b,off,rfl,hc⟩:=hs (by omega)
 have hne:((l.length:Int)==0)=false:=by rw [beq_eq_false_iff_ne];omega
 have hp:(0:Int)<(l.length:Int):=by omega
 have h0:w.cell? ⟨b,off,none⟩=some (.int .u8 (aD l 0)):=by simpa [nD]using hc.at 0 (by omega)
 have hb:=dF l 0
 have hb0:=dE l 0
 have hlm:l.length≤9223372036854775807:=by unfold maxLen at hc2;omega
 by_cases hlow:aD l 0≤127
 ·have hN:bb l=(aD l 0,1,true):=by unfold bb;rw [if_neg hn,if_pos hlow]
  have hE:=fun n (h:n=_)=>lj (n:=n) hN h
  clear hs hN
  have HE:=Lib.hid hE
  clear hE
  go_enter Tryz.func100,Tryz.ntmps100
  go_wp2
  go_ret3
  exact ⟨HE.out _ rfl,0,rfl⟩
 unfold maxLen at hc2
 rcases iH (aD l 0)with h|⟨m,lo,hi,h,h1,h2,h3,h4,h5,h6⟩
 ·have hN:bb l=(65533,1,false):=by unfold bb;rw [if_neg hn,if_neg hlow,h,if_pos rfl]
  have hE:=fun n (h:n=_)=>lj (n:=n) hN h
  clear hs hN
  have HE:=Lib.hid hE
  clear hE
  go_enter Tryz.func100,Tryz.ntmps100
  go_wp2_with (go_at_call 143;refine (tf _ _ (by omega) (by omega)).mono ?_;rintro e w' ⟨rfl,rfl⟩;rw [h];clear h)
  go_ret3
  exact ⟨HE.out _ rfl,0,rfl⟩
 have h7:(m==0)=false:=by simp;omega
 obtain ⟨J,hJ⟩:∃J:Nat,m=(J:Int):=⟨m.toNat,by omega⟩
 have HJ:=Lib.hid hJ
 have hJ1:1≤J:=by omega
 have hJ3:J≤3:=by omega
 have HN:Hid (bb l=nl l m.toNat 1 (aD l 0 %2^(6-m.toNat)) lo hi):=by unfold bb;rw [if_neg hn,if_neg hlow,h,if_neg (show ¬m=0 by omega)];exact Lib.hid rfl
 have HC:=Lib.hid hc
 clear hs hc hJ
 go_enter Tryz.func100,Tryz.ntmps100
 go_wp2_with (go_at_call 143;refine (tf _ _ (by omega) (by omega)).mono ?_;rintro e w' ⟨rfl,rfl⟩;rw [h];clear h)
 obtain rfl|rfl|rfl:m=1∨m=2∨m=3:=by omega
 all_goals
  go_quiet (fail)
  go_wp2
  go_loop [6,7,8,9] (fun tl th tr ti=>∃(j k:Nat) (R L H:Int),1≤k∧k+j=J+1∧ti=.int .i64 k∧tr=.int .i32 R∧tl=.int .u8 L∧th=.int .u8 H∧
   0≤R∧R<Kq k∧0≤L∧L≤255∧0≤H∧H≤255∧Hid (bb l=nl l j k R L H)) (fun _ _ _ ti=>5-(intOf ti).toNat)
  case atStart=>
   have hJ:=HJ.out
   obtain rfl:=Int.ofNat_inj.1 hJ
   exact ⟨_,1,_,_,_,by omega,by omega,rfl,rfl,rfl,rfl,by omega,by unfold Kq;rw [if_pos (by omega)];omega,by omega,by omega,by omega,by omega,HN.out⟩
  case round=>
   obtain ⟨j,k,R,L,H,hk1,hkj,rfl,rfl,rfl,rfl,hR0,hR,hL0,hL1,hH0,hH1,HR⟩:=hrel
   have hk5:k<5:=by omega
   have hbk:=dE l k
   have hbk1:=dF l k
   rcases j with _ |j
   ·have hlt:¬(k:Int)≤J:=by omega
    have hd:=HJ.out
    rw [←hd]at hlt
    have HK:=Lib.hid hkj
    clear hd hkj
    go_wp2
    go_ret3
    exact ⟨lj (HR.out.trans jc) (by have:=HJ.out;have:=HK.out;omega),nq,rfl⟩
   ·have hlt:(k:Int)≤J:=by omega
    have hd:=HJ.out
    rw [←hd]at hlt
    clear hd
    have hR2:=Int.lt_of_lt_of_le hR (Kr (show k≤3 by omega))
    have HS:=Fc (x:=aD l k) hk1 (show k≤3 by omega) hR
    clear hR
    by_cases hlen:k<l.length
    ·have hcell:w.cell? ⟨b,off+k,none⟩=some (.int .u8 (aD l k)):=HC.out.at k hlen
     by_cases hlo:L≤aD l k
     ·by_cases hhi:aD l k≤H
      ·go_wp2
       go_round
       case rel=>exact ⟨j,k+1,_,_,_,by omega,by omega,by go_num,rfl,rfl,rfl,by omega,HS,by omega,by omega,by omega,by omega,HR.out.trans (eX ⟨hlen,hlo,hhi⟩)⟩
       case measure=>simp [intOf];omega
      ·go_wp2
       go_ret3
       exact ⟨lj (HR.out.trans (ju (by omega))) rfl,nq,rfl⟩
     ·go_wp2
      go_ret3
      exact ⟨lj (HR.out.trans (ju (by omega))) rfl,nq,rfl⟩
    ·go_wp2
     go_ret3
     exact ⟨lj (HR.out.trans (ju (by omega))) rfl,nq,rfl⟩
end Go.Proofs.YtmfapopclbnlpaaGreatDoor
