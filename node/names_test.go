package node

import (
	"testing"

	"hourglass/api"
	"hourglass/ident"
)

// spawner is a node of which so many names are left, at which an attempt runs that makes two calls.
func spawner(t *testing.T, left int) *Node {
	t.Helper()
	n, e := New(api.Config{
		Nodes: 2, Lease: 50, Least: 1, Hops: 3, Cap: 4, Fan: 8, Attempts: 2, Base: 4, Most: 8, Wait: 20, Tokens: 3,
		Programs: [][]api.Op{{{Kind: api.Spawn}, {Kind: api.Spawn}, {Kind: api.Answer}}},
	}, 0)
	if e != api.OK {
		t.Fatal(e)
	}
	name := api.Id{Node: 1, Seq: 1}
	_, e = n.Receive(0, api.Packet{
		Kind: api.Call, From: 1, Key: api.Key{Id: name, Att: 1}, Hop: 1, Timeout: "100u", Until: 50, Root: name, Parent: api.Key{Id: name},
	})
	if e != api.OK || len(n.Running()) != 1 {
		t.Fatal(e, n.Running())
	}
	// Given one by one, so many names would take minutes.
	n.given = ident.MaxSeq - left
	return n
}

func TestARootTakesTwoNames(t *testing.T) {
	for left := range 5 {
		n := spawner(t, left)
		root, x, e := n.Issue(5, 1, 0, 9)
		if left < 2 {
			if root != (api.Id{}) || len(x.Packets)+len(x.Events) != 0 || e != api.ErrFull || len(n.Keys()) != 1 || n.names() != left || n.now != 0 {
				t.Errorf("with %d names left: %+v, %+v, %d", left, root, x, e)
			}
			if _, _, e := n.Issue(5, 2, 0, 9); e != api.ErrArg {
				t.Errorf("with %d names left: %d", left, e)
			}
			continue
		}
		want := api.Id{Seq: 1<<24 - left}
		if root != want || e != api.OK || len(x.Packets) != 1 || x.Packets[0].Key.Id.Seq != want.Seq+1 || n.names() != left-2 {
			t.Errorf("with %d names left: %+v, %+v, %d", left, root, x, e)
		}
	}
}

func TestWhoHasNoNameFailsAsExhausted(t *testing.T) {
	n := spawner(t, 1)
	x, e := n.Run(5, 0)
	if e != api.OK || len(x.Packets) != 1 || x.Packets[0].Key.Id != (api.Id{Seq: 1<<24 - 1}) || len(x.Events) != 2 {
		t.Errorf("with a name left: %+v, %d", x, e)
	}
	last := x.Packets[0].Key
	x, e = n.Run(6, 0)
	k := api.Key{Id: api.Id{Node: 1, Seq: 1}, Att: 1}
	answer := api.Packet{Kind: api.Reply, To: 1, Key: k, Code: api.Exhausted}
	stop := api.Packet{Kind: api.Cancel, Key: last}
	if e != api.OK || len(x.Packets) != 2 || x.Packets[0] != answer || x.Packets[1] != stop {
		t.Errorf("without a name: %+v, %d", x, e)
	}
	if len(x.Events) != 1 || x.Events[0].Kind != api.Replied || x.Events[0].Code != api.Exhausted || len(n.Keys()) != 0 {
		t.Errorf("without a name: %+v", x)
	}
	// A crash brings names anew.
	n.Crash(7)
	if root, _, e := n.Issue(8, 1, 0, 9); root != (api.Id{Inc: 1, Seq: 1}) || e != api.OK {
		t.Error(root, e)
	}
}

// TestAlarmsAreThoseOfOwners: none is left of who is gone, so that there is always room.
func TestAlarmsAreThoseOfOwners(t *testing.T) {
	n := spawner(t, 100)
	n.Run(1, 0)
	n.Issue(1, 1, 0, 90)
	root, x, _ := n.Issue(1, 1, 0, 90)
	expect := func(want int) {
		t.Helper()
		if got := n.alarms.Len(); got != want {
			t.Errorf("%d alarms, not %d: %+v", got, want, n.alarms.All())
		}
	}
	expect(6)
	n.Receive(2, api.Packet{Kind: api.Push, From: 1, Key: x.Packets[0].Key, Delay: 10})
	expect(6)
	n.Receive(2, api.Packet{Kind: api.Keep, From: 1, Key: n.Running()[0], Until: 90})
	expect(6)
	n.Timer(12)
	expect(6)
	n.Cancel(13, root)
	expect(4)
	n.Run(14, 0)
	expect(5)
	n.Run(15, 0)
	expect(2)
	n.Crash(16)
	expect(0)
}
