package desk_test

import (
	"fmt"

	"gleaning/api"
	"gleaning/batch"
	"gleaning/desk"
)

func Example() {
	d, err := desk.Open(api.Config{
		Idle: 2, Age: 10,
		Most: 1000, Memo: 100,
		Cap:  1 << 30,
		Keep: 1000, Budget: 1 << 20,
		Horizon: [3]int{3600, 86400, 86400 * 30},
	}, 1<<24)
	fmt.Println("open:", err)
	_, err = d.Policy("any(err, slow 500, hash 10)")
	fmt.Println("policy:", err)
	shop := api.Span{Trace: api.Trace{Lo: 7}, Id: 1, Service: "shop", Op: "buy", Start: 100, Dur: 800}
	bank := api.Span{Trace: api.Trace{Lo: 7}, Id: 2, Parent: 1, Service: "bank", Op: "pay", Start: 100, Dur: 600, Err: true}
	fmt.Println("spans:", d.Do(api.Event{Kind: api.EIngest, Data: batch.Bytes([]api.Span{shop, bank})}).Err)
	for range 2 {
		d.Do(api.Event{Kind: api.ETick, N: 160})
	}
	d.Do(api.Event{Kind: api.ECrash})
	fmt.Println("recover:", d.Do(api.Event{Kind: api.ERecover}).Err)
	found, _ := d.Search(api.Query{Err: true}, 10)
	way, _ := d.Path(found[0])
	for _, s := range way {
		fmt.Println(s.Service, s.Op, s.Dur)
	}
	dur, _ := d.Quantile("bank", "pay", 1, 990)
	fmt.Println("at least", dur)
	fmt.Println(d.Do(api.Event{Kind: api.EEdges}).Edges)
	// Output:
	// open: 0
	// policy: 0
	// spans: 0
	// recover: 0
	// shop buy 800
	// bank pay 600
	// at least 500
	// [{shop bank 1 1}]
}
